/-
  NARROWER THAN 'FOR EVERY INPUT', by the rows' own cells (each row's printed sentence says how): FnExactMakeBlock: laid · FnExactReadBlock: laid · FnBursts: laid · FnChannels: laid · FnExactBlocksOf: laid · FnStreams: laid.
  DERIVED. THE GIVEN ROWS OF THIS SEAT. 6 by the template 'for every input the law returns true; each argument reads behind the call as it read before'; 0 by the template 'total and deterministic' (their statements: YtdponcannphboabDoorTotals.lean).
  GIVEN WITH THE SEED: the statements are not yours to turn. If you find one false, say at which input.
  Laid BY PROGRAM, IN A SANDBOX (cutbox-rows.mjs): the forced cells as the released guide's own fill.sh prints them over the translation e9b3220f45aababb… (all of the seat's roots in one cut). By AI agents, Wed Nov 11 2026. No macro, syntax, notation, axiom, sorry.
-/
import Derived.Test.YtdponcannphboabDoorChecked
import GoSem.Claim
import GoSem.ClaimJoined
import GoSem.ClaimMapViews
import Derived.JoinedTies
import Derived.KernelRfl
namespace Go.Proofs.YtdponcannphboabDoor
/- THE CELL 'sum', in the pinned program and in every row, IS THE sha256 OF THE DUMP (.gsa) THAT YtdponcannphboabDoorProg.lean LOADS. Nothing in Lean hashes anything: it is a label: what it is worth is what the hold of that sum in a sandbox is worth. -/
noncomputable def Tryd.pinned : Pinned := { name := "ytdponcannphboabdoor", sum := "e9b3220f45aababbb7170503e9dc612d298b20d15532907e29b81cdef1705893", checked := Tryd.checked }
namespace Rows
def none {H : Type} : Left H := { results := [], args := [] }

/- WHAT THE LISTED PACKAGE-LEVEL VARIABLES READ AS WHEN THE CALL BEGINS. Each datum BY PROGRAM (the guide's laid-datum.mjs) off the statement by which the dump's own 'gosem.cut.vars' lays the variable. In a bare row this is a premise. The card (YtdponcannphboabDoorCards.lean) ties it to the program's text. -/
def laid_loop_example_g03316_impl_bitWords {H : Type} : DataW H := .agg [.lit (.int .i64 135), .lit (.int .i64 153), .lit (.int .i64 170), .lit (.int .i64 75)]

/-- 'laws.FnExactMakeBlock': WHATEVER THE INPUT: true; the input reads as it did. -/
def fnExactMakeBlockSpec : ChangeSpec := { name := "fnExactMakeBlock", vars := ["loop.example/g03316/impl.bitWords"], fn := fun _ => fun
  | [d, g1] => { results := [.lit (.bool true)], args := [d], vars := [g1] }
  | _ => none }
def fnExactMakeBlockRow : OpenClaim := { program := "ytdponcannphboabdoor", sum := "e9b3220f45aababbb7170503e9dc612d298b20d15532907e29b81cdef1705893", func := "loop.example/g03316/laws.FnExactMakeBlock", spec := "fnExactMakeBlock", unfollowed := true, recurses := true, named := ["loop.example/g03316/impl.bitWords"], apart := false, laid := [("loop.example/g03316/impl.bitWords", laid_loop_example_g03316_impl_bitWords)] }
def FnExactMakeBlockSaid : Prop := fnExactMakeBlockRow.holds Tryd.pinned (OpenSpec.ofChange fnExactMakeBlockSpec)

/-- ITS FALSE NEIGHBOUR: 'it returns false'. Refute it at one input. -/
def fnExactMakeBlockWrong : ChangeSpec := { name := "fnExactMakeBlock", vars := ["loop.example/g03316/impl.bitWords"], fn := fun _ => fun
  | [d, g1] => { results := [.lit (.bool false)], args := [d], vars := [g1] }
  | _ => none }
def FnExactMakeBlockWrongFalsely : Prop := fnExactMakeBlockRow.holds Tryd.pinned (OpenSpec.ofChange fnExactMakeBlockWrong)

/-- 'laws.FnExactReadBlock': WHATEVER THE INPUT: true; the input reads as it did. -/
def fnExactReadBlockSpec : ChangeSpec := { name := "fnExactReadBlock", vars := ["loop.example/g03316/impl.bitWords"], fn := fun _ => fun
  | [d, g1] => { results := [.lit (.bool true)], args := [d], vars := [g1] }
  | _ => none }
def fnExactReadBlockRow : OpenClaim := { program := "ytdponcannphboabdoor", sum := "e9b3220f45aababbb7170503e9dc612d298b20d15532907e29b81cdef1705893", func := "loop.example/g03316/laws.FnExactReadBlock", spec := "fnExactReadBlock", unfollowed := true, recurses := true, named := ["loop.example/g03316/impl.bitWords"], apart := false, laid := [("loop.example/g03316/impl.bitWords", laid_loop_example_g03316_impl_bitWords)] }
def FnExactReadBlockSaid : Prop := fnExactReadBlockRow.holds Tryd.pinned (OpenSpec.ofChange fnExactReadBlockSpec)

/-- ITS FALSE NEIGHBOUR: 'it returns false'. Refute it at one input. -/
def fnExactReadBlockWrong : ChangeSpec := { name := "fnExactReadBlock", vars := ["loop.example/g03316/impl.bitWords"], fn := fun _ => fun
  | [d, g1] => { results := [.lit (.bool false)], args := [d], vars := [g1] }
  | _ => none }
def FnExactReadBlockWrongFalsely : Prop := fnExactReadBlockRow.holds Tryd.pinned (OpenSpec.ofChange fnExactReadBlockWrong)

/-- 'laws.FnBursts': WHATEVER THE INPUT: true; the input reads as it did. -/
def fnBurstsSpec : ChangeSpec := { name := "fnBursts", vars := ["loop.example/g03316/impl.bitWords"], fn := fun _ => fun
  | [d, g1] => { results := [.lit (.bool true)], args := [d], vars := [g1] }
  | _ => none }
def fnBurstsRow : OpenClaim := { program := "ytdponcannphboabdoor", sum := "e9b3220f45aababbb7170503e9dc612d298b20d15532907e29b81cdef1705893", func := "loop.example/g03316/laws.FnBursts", spec := "fnBursts", unfollowed := true, recurses := true, named := ["loop.example/g03316/impl.bitWords"], apart := false, laid := [("loop.example/g03316/impl.bitWords", laid_loop_example_g03316_impl_bitWords)] }
def FnBurstsSaid : Prop := fnBurstsRow.holds Tryd.pinned (OpenSpec.ofChange fnBurstsSpec)

/-- ITS FALSE NEIGHBOUR: 'it returns false'. Refute it at one input. -/
def fnBurstsWrong : ChangeSpec := { name := "fnBursts", vars := ["loop.example/g03316/impl.bitWords"], fn := fun _ => fun
  | [d, g1] => { results := [.lit (.bool false)], args := [d], vars := [g1] }
  | _ => none }
def FnBurstsWrongFalsely : Prop := fnBurstsRow.holds Tryd.pinned (OpenSpec.ofChange fnBurstsWrong)

/-- 'laws.FnChannels': WHATEVER THE INPUT: true; the input reads as it did. -/
def fnChannelsSpec : ChangeSpec := { name := "fnChannels", vars := ["loop.example/g03316/impl.bitWords"], fn := fun _ => fun
  | [d, g1] => { results := [.lit (.bool true)], args := [d], vars := [g1] }
  | _ => none }
def fnChannelsRow : OpenClaim := { program := "ytdponcannphboabdoor", sum := "e9b3220f45aababbb7170503e9dc612d298b20d15532907e29b81cdef1705893", func := "loop.example/g03316/laws.FnChannels", spec := "fnChannels", unfollowed := true, recurses := true, named := ["loop.example/g03316/impl.bitWords"], apart := false, laid := [("loop.example/g03316/impl.bitWords", laid_loop_example_g03316_impl_bitWords)] }
def FnChannelsSaid : Prop := fnChannelsRow.holds Tryd.pinned (OpenSpec.ofChange fnChannelsSpec)

/-- ITS FALSE NEIGHBOUR: 'it returns false'. Refute it at one input. -/
def fnChannelsWrong : ChangeSpec := { name := "fnChannels", vars := ["loop.example/g03316/impl.bitWords"], fn := fun _ => fun
  | [d, g1] => { results := [.lit (.bool false)], args := [d], vars := [g1] }
  | _ => none }
def FnChannelsWrongFalsely : Prop := fnChannelsRow.holds Tryd.pinned (OpenSpec.ofChange fnChannelsWrong)

/-- 'laws.FnExactBlocksOf': WHATEVER THE INPUT: true; the input reads as it did. -/
def fnExactBlocksOfSpec : ChangeSpec := { name := "fnExactBlocksOf", vars := ["loop.example/g03316/impl.bitWords"], fn := fun _ => fun
  | [d1, d2, g1] => { results := [.lit (.bool true)], args := [d1, d2], vars := [g1] }
  | _ => none }
def fnExactBlocksOfRow : OpenClaim := { program := "ytdponcannphboabdoor", sum := "e9b3220f45aababbb7170503e9dc612d298b20d15532907e29b81cdef1705893", func := "loop.example/g03316/laws.FnExactBlocksOf", spec := "fnExactBlocksOf", unfollowed := true, recurses := true, named := ["loop.example/g03316/impl.bitWords"], apart := false, laid := [("loop.example/g03316/impl.bitWords", laid_loop_example_g03316_impl_bitWords)] }
def FnExactBlocksOfSaid : Prop := fnExactBlocksOfRow.holds Tryd.pinned (OpenSpec.ofChange fnExactBlocksOfSpec)

/-- ITS FALSE NEIGHBOUR: 'it returns false'. Refute it at one input. -/
def fnExactBlocksOfWrong : ChangeSpec := { name := "fnExactBlocksOf", vars := ["loop.example/g03316/impl.bitWords"], fn := fun _ => fun
  | [d1, d2, g1] => { results := [.lit (.bool false)], args := [d1, d2], vars := [g1] }
  | _ => none }
def FnExactBlocksOfWrongFalsely : Prop := fnExactBlocksOfRow.holds Tryd.pinned (OpenSpec.ofChange fnExactBlocksOfWrong)

/-- 'laws.FnStreams': WHATEVER THE INPUT: true; the input reads as it did. -/
def fnStreamsSpec : ChangeSpec := { name := "fnStreams", vars := ["loop.example/g03316/impl.bitWords"], fn := fun _ => fun
  | [d, g1] => { results := [.lit (.bool true)], args := [d], vars := [g1] }
  | _ => none }
def fnStreamsRow : OpenClaim := { program := "ytdponcannphboabdoor", sum := "e9b3220f45aababbb7170503e9dc612d298b20d15532907e29b81cdef1705893", func := "loop.example/g03316/laws.FnStreams", spec := "fnStreams", unfollowed := true, recurses := true, named := ["loop.example/g03316/impl.bitWords"], apart := false, laid := [("loop.example/g03316/impl.bitWords", laid_loop_example_g03316_impl_bitWords)] }
def FnStreamsSaid : Prop := fnStreamsRow.holds Tryd.pinned (OpenSpec.ofChange fnStreamsSpec)

/-- ITS FALSE NEIGHBOUR: 'it returns false'. Refute it at one input. -/
def fnStreamsWrong : ChangeSpec := { name := "fnStreams", vars := ["loop.example/g03316/impl.bitWords"], fn := fun _ => fun
  | [d, g1] => { results := [.lit (.bool false)], args := [d], vars := [g1] }
  | _ => none }
def FnStreamsWrongFalsely : Prop := fnStreamsRow.holds Tryd.pinned (OpenSpec.ofChange fnStreamsWrong)

/- THE SECOND FORM. 'bulk': how many values and letters a reading holds, each counted each time it is reached (what is shared counts as often as it is met; a slice's spare places count too). A statement '..UptoSaid' is the law's where the arguments, and the package variables that the reading takes, are together of bulk at most 1048576: NARROWER than '..Said'. Prove '..Said' where nothing that the law and all that it calls make is longer than what came in: it says more and counts as full. Else prove '..UptoSaid'. A law counts once. -/
mutual
def uptoBulk {H : Type} : DataW H → Nat
  | .lit (.string bytes) => bytes.length + 1
  | .lit _ => 1
  | .nil => 1
  | .ptr d => uptoBulk d + 1
  | .slice elems spare => uptoBulkAll elems + uptoBulkAll spare + 1
  | .agg parts => uptoBulkAll parts + 1
  | .iface _ d => uptoBulk d + 1
  | .map entries => uptoBulkEntries entries + 1
  | .held _ => 1
def uptoBulkAll {H : Type} : List (DataW H) → Nat
  | [] => 0
  | d :: r => uptoBulk d + uptoBulkAll r
def uptoBulkEntries {H : Type} : List (Lit × DataW H) → Nat
  | [] => 0
  | x :: r => uptoBulkEntry x + uptoBulkEntries r
def uptoBulkEntry {H : Type} : Lit × DataW H → Nat
  | (.string bytes, d) => bytes.length + uptoBulk d + 1
  | (_, d) => uptoBulk d + 1
 end
def uptoSmall : (H : Type) → List (DataW H) → Bool := fun _ ds => decide (uptoBulkAll ds ≤ 1048576)
def OpenSpec.upto (s : _root_.Go.ChangeSpec) : _root_.Go.OpenSpec := { _root_.Go.OpenSpec.ofChange s with cond := some uptoSmall }

/-- 'laws.FnExactMakeBlock', WHERE WHAT IT READS IS OF BULK AT MOST 1048576: true; the input reads as it did. -/
def fnExactMakeBlockUptoRow : OpenClaim := { program := "ytdponcannphboabdoor", sum := "e9b3220f45aababbb7170503e9dc612d298b20d15532907e29b81cdef1705893", func := "loop.example/g03316/laws.FnExactMakeBlock", spec := "fnExactMakeBlock", unfollowed := true, recurses := true, named := ["loop.example/g03316/impl.bitWords"], apart := false, laid := [("loop.example/g03316/impl.bitWords", laid_loop_example_g03316_impl_bitWords)], narrowed := true }
def FnExactMakeBlockUptoSaid : Prop := fnExactMakeBlockUptoRow.holds Tryd.pinned (OpenSpec.upto fnExactMakeBlockSpec)

/-- 'laws.FnExactReadBlock', WHERE WHAT IT READS IS OF BULK AT MOST 1048576: true; the input reads as it did. -/
def fnExactReadBlockUptoRow : OpenClaim := { program := "ytdponcannphboabdoor", sum := "e9b3220f45aababbb7170503e9dc612d298b20d15532907e29b81cdef1705893", func := "loop.example/g03316/laws.FnExactReadBlock", spec := "fnExactReadBlock", unfollowed := true, recurses := true, named := ["loop.example/g03316/impl.bitWords"], apart := false, laid := [("loop.example/g03316/impl.bitWords", laid_loop_example_g03316_impl_bitWords)], narrowed := true }
def FnExactReadBlockUptoSaid : Prop := fnExactReadBlockUptoRow.holds Tryd.pinned (OpenSpec.upto fnExactReadBlockSpec)

/-- 'laws.FnBursts', WHERE WHAT IT READS IS OF BULK AT MOST 1048576: true; the input reads as it did. -/
def fnBurstsUptoRow : OpenClaim := { program := "ytdponcannphboabdoor", sum := "e9b3220f45aababbb7170503e9dc612d298b20d15532907e29b81cdef1705893", func := "loop.example/g03316/laws.FnBursts", spec := "fnBursts", unfollowed := true, recurses := true, named := ["loop.example/g03316/impl.bitWords"], apart := false, laid := [("loop.example/g03316/impl.bitWords", laid_loop_example_g03316_impl_bitWords)], narrowed := true }
def FnBurstsUptoSaid : Prop := fnBurstsUptoRow.holds Tryd.pinned (OpenSpec.upto fnBurstsSpec)

/-- 'laws.FnChannels', WHERE WHAT IT READS IS OF BULK AT MOST 1048576: true; the input reads as it did. -/
def fnChannelsUptoRow : OpenClaim := { program := "ytdponcannphboabdoor", sum := "e9b3220f45aababbb7170503e9dc612d298b20d15532907e29b81cdef1705893", func := "loop.example/g03316/laws.FnChannels", spec := "fnChannels", unfollowed := true, recurses := true, named := ["loop.example/g03316/impl.bitWords"], apart := false, laid := [("loop.example/g03316/impl.bitWords", laid_loop_example_g03316_impl_bitWords)], narrowed := true }
def FnChannelsUptoSaid : Prop := fnChannelsUptoRow.holds Tryd.pinned (OpenSpec.upto fnChannelsSpec)

/-- 'laws.FnExactBlocksOf', WHERE WHAT IT READS IS OF BULK AT MOST 1048576: true; the input reads as it did. -/
def fnExactBlocksOfUptoRow : OpenClaim := { program := "ytdponcannphboabdoor", sum := "e9b3220f45aababbb7170503e9dc612d298b20d15532907e29b81cdef1705893", func := "loop.example/g03316/laws.FnExactBlocksOf", spec := "fnExactBlocksOf", unfollowed := true, recurses := true, named := ["loop.example/g03316/impl.bitWords"], apart := false, laid := [("loop.example/g03316/impl.bitWords", laid_loop_example_g03316_impl_bitWords)], narrowed := true }
def FnExactBlocksOfUptoSaid : Prop := fnExactBlocksOfUptoRow.holds Tryd.pinned (OpenSpec.upto fnExactBlocksOfSpec)

/-- 'laws.FnStreams', WHERE WHAT IT READS IS OF BULK AT MOST 1048576: true; the input reads as it did. -/
def fnStreamsUptoRow : OpenClaim := { program := "ytdponcannphboabdoor", sum := "e9b3220f45aababbb7170503e9dc612d298b20d15532907e29b81cdef1705893", func := "loop.example/g03316/laws.FnStreams", spec := "fnStreams", unfollowed := true, recurses := true, named := ["loop.example/g03316/impl.bitWords"], apart := false, laid := [("loop.example/g03316/impl.bitWords", laid_loop_example_g03316_impl_bitWords)], narrowed := true }
def FnStreamsUptoSaid : Prop := fnStreamsUptoRow.holds Tryd.pinned (OpenSpec.upto fnStreamsSpec)

end Rows
end Go.Proofs.YtdponcannphboabDoor
