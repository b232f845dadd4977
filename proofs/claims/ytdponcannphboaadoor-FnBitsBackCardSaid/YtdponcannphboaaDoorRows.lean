/-
  NARROWER THAN 'FOR EVERY INPUT', by the rows' own cells (each row's printed sentence says how): FnExactEncodeNibble: laid · FnExactDecodeNibble: laid · FnCodeWords: laid · FnExactEncodeBlock: laid · FnExactDecodeBlock: laid · FnBitsBack: laid.
  DERIVED. THE GIVEN ROWS OF THIS SEAT. 6 by the template 'for every input the law returns true; each argument reads behind the call as it read before'; 0 by the template 'total and deterministic' (their statements: YtdponcannphboaaDoorTotals.lean).
  GIVEN WITH THE SEED: the statements are not yours to turn. If you find one false, say at which input.
  Laid BY PROGRAM, IN A SANDBOX (cutbox-rows.mjs): the forced cells as the released guide's own fill.sh prints them over the translation 7d39a4c69577d7e6… (all of the seat's roots in one cut). By AI agents, Wed Nov 11 2026. No macro, syntax, notation, axiom, sorry.
-/
import Derived.Test.YtdponcannphboaaDoorChecked
import GoSem.Claim
import GoSem.ClaimJoined
import GoSem.ClaimMapViews
import Derived.JoinedTies
import Derived.KernelRfl
namespace Go.Proofs.YtdponcannphboaaDoor
/- THE CELL 'sum', in the pinned program and in every row, IS THE sha256 OF THE DUMP (.gsa) THAT YtdponcannphboaaDoorProg.lean LOADS. Nothing in Lean hashes anything: it is a label: what it is worth is what the hold of that sum in a sandbox is worth. -/
noncomputable def Tryd.pinned : Pinned := { name := "ytdponcannphboaadoor", sum := "7d39a4c69577d7e6d1afc5c1863860960e75ea8c1af100e4c4c65020cdefe848", checked := Tryd.checked }
namespace Rows
def none {H : Type} : Left H := { results := [], args := [] }

/- WHAT THE LISTED PACKAGE-LEVEL VARIABLES READ AS WHEN THE CALL BEGINS. Each datum BY PROGRAM (the guide's laid-datum.mjs) off the statement by which the dump's own 'gosem.cut.vars' lays the variable. In a bare row this is a premise. The card (YtdponcannphboaaDoorCards.lean) ties it to the program's text. -/
def laid_loop_example_g03316_impl_bitWords {H : Type} : DataW H := .agg [.lit (.int .i64 135), .lit (.int .i64 153), .lit (.int .i64 170), .lit (.int .i64 75)]

/-- 'laws.FnExactEncodeNibble': WHATEVER THE INPUT: true; the input reads as it did. -/
def fnExactEncodeNibbleSpec : ChangeSpec := { name := "fnExactEncodeNibble", vars := ["loop.example/g03316/impl.bitWords"], fn := fun _ => fun
  | [d, g1] => { results := [.lit (.bool true)], args := [d], vars := [g1] }
  | _ => none }
def fnExactEncodeNibbleRow : OpenClaim := { program := "ytdponcannphboaadoor", sum := "7d39a4c69577d7e6d1afc5c1863860960e75ea8c1af100e4c4c65020cdefe848", func := "loop.example/g03316/laws.FnExactEncodeNibble", spec := "fnExactEncodeNibble", named := ["loop.example/g03316/impl.bitWords"], apart := false, laid := [("loop.example/g03316/impl.bitWords", laid_loop_example_g03316_impl_bitWords)] }
def FnExactEncodeNibbleSaid : Prop := fnExactEncodeNibbleRow.holds Tryd.pinned (OpenSpec.ofChange fnExactEncodeNibbleSpec)

/-- ITS FALSE NEIGHBOUR: 'it returns false'. Refute it at one input. -/
def fnExactEncodeNibbleWrong : ChangeSpec := { name := "fnExactEncodeNibble", vars := ["loop.example/g03316/impl.bitWords"], fn := fun _ => fun
  | [d, g1] => { results := [.lit (.bool false)], args := [d], vars := [g1] }
  | _ => none }
def FnExactEncodeNibbleWrongFalsely : Prop := fnExactEncodeNibbleRow.holds Tryd.pinned (OpenSpec.ofChange fnExactEncodeNibbleWrong)

/-- 'laws.FnExactDecodeNibble': WHATEVER THE INPUT: true; the input reads as it did. -/
def fnExactDecodeNibbleSpec : ChangeSpec := { name := "fnExactDecodeNibble", vars := ["loop.example/g03316/impl.bitWords"], fn := fun _ => fun
  | [d, g1] => { results := [.lit (.bool true)], args := [d], vars := [g1] }
  | _ => none }
def fnExactDecodeNibbleRow : OpenClaim := { program := "ytdponcannphboaadoor", sum := "7d39a4c69577d7e6d1afc5c1863860960e75ea8c1af100e4c4c65020cdefe848", func := "loop.example/g03316/laws.FnExactDecodeNibble", spec := "fnExactDecodeNibble", named := ["loop.example/g03316/impl.bitWords"], apart := false, laid := [("loop.example/g03316/impl.bitWords", laid_loop_example_g03316_impl_bitWords)] }
def FnExactDecodeNibbleSaid : Prop := fnExactDecodeNibbleRow.holds Tryd.pinned (OpenSpec.ofChange fnExactDecodeNibbleSpec)

/-- ITS FALSE NEIGHBOUR: 'it returns false'. Refute it at one input. -/
def fnExactDecodeNibbleWrong : ChangeSpec := { name := "fnExactDecodeNibble", vars := ["loop.example/g03316/impl.bitWords"], fn := fun _ => fun
  | [d, g1] => { results := [.lit (.bool false)], args := [d], vars := [g1] }
  | _ => none }
def FnExactDecodeNibbleWrongFalsely : Prop := fnExactDecodeNibbleRow.holds Tryd.pinned (OpenSpec.ofChange fnExactDecodeNibbleWrong)

/-- 'laws.FnCodeWords': WHATEVER THE INPUT: true; the input reads as it did. -/
def fnCodeWordsSpec : ChangeSpec := { name := "fnCodeWords", vars := ["loop.example/g03316/impl.bitWords"], fn := fun _ => fun
  | [d, g1] => { results := [.lit (.bool true)], args := [d], vars := [g1] }
  | _ => none }
def fnCodeWordsRow : OpenClaim := { program := "ytdponcannphboaadoor", sum := "7d39a4c69577d7e6d1afc5c1863860960e75ea8c1af100e4c4c65020cdefe848", func := "loop.example/g03316/laws.FnCodeWords", spec := "fnCodeWords", named := ["loop.example/g03316/impl.bitWords"], apart := false, laid := [("loop.example/g03316/impl.bitWords", laid_loop_example_g03316_impl_bitWords)] }
def FnCodeWordsSaid : Prop := fnCodeWordsRow.holds Tryd.pinned (OpenSpec.ofChange fnCodeWordsSpec)

/-- ITS FALSE NEIGHBOUR: 'it returns false'. Refute it at one input. -/
def fnCodeWordsWrong : ChangeSpec := { name := "fnCodeWords", vars := ["loop.example/g03316/impl.bitWords"], fn := fun _ => fun
  | [d, g1] => { results := [.lit (.bool false)], args := [d], vars := [g1] }
  | _ => none }
def FnCodeWordsWrongFalsely : Prop := fnCodeWordsRow.holds Tryd.pinned (OpenSpec.ofChange fnCodeWordsWrong)

/-- 'laws.FnExactEncodeBlock': WHATEVER THE INPUT: true; the input reads as it did. -/
def fnExactEncodeBlockSpec : ChangeSpec := { name := "fnExactEncodeBlock", vars := ["loop.example/g03316/impl.bitWords"], fn := fun _ => fun
  | [d, g1] => { results := [.lit (.bool true)], args := [d], vars := [g1] }
  | _ => none }
def fnExactEncodeBlockRow : OpenClaim := { program := "ytdponcannphboaadoor", sum := "7d39a4c69577d7e6d1afc5c1863860960e75ea8c1af100e4c4c65020cdefe848", func := "loop.example/g03316/laws.FnExactEncodeBlock", spec := "fnExactEncodeBlock", named := ["loop.example/g03316/impl.bitWords"], apart := false, laid := [("loop.example/g03316/impl.bitWords", laid_loop_example_g03316_impl_bitWords)] }
def FnExactEncodeBlockSaid : Prop := fnExactEncodeBlockRow.holds Tryd.pinned (OpenSpec.ofChange fnExactEncodeBlockSpec)

/-- ITS FALSE NEIGHBOUR: 'it returns false'. Refute it at one input. -/
def fnExactEncodeBlockWrong : ChangeSpec := { name := "fnExactEncodeBlock", vars := ["loop.example/g03316/impl.bitWords"], fn := fun _ => fun
  | [d, g1] => { results := [.lit (.bool false)], args := [d], vars := [g1] }
  | _ => none }
def FnExactEncodeBlockWrongFalsely : Prop := fnExactEncodeBlockRow.holds Tryd.pinned (OpenSpec.ofChange fnExactEncodeBlockWrong)

/-- 'laws.FnExactDecodeBlock': WHATEVER THE INPUT: true; the input reads as it did. -/
def fnExactDecodeBlockSpec : ChangeSpec := { name := "fnExactDecodeBlock", vars := ["loop.example/g03316/impl.bitWords"], fn := fun _ => fun
  | [d, g1] => { results := [.lit (.bool true)], args := [d], vars := [g1] }
  | _ => none }
def fnExactDecodeBlockRow : OpenClaim := { program := "ytdponcannphboaadoor", sum := "7d39a4c69577d7e6d1afc5c1863860960e75ea8c1af100e4c4c65020cdefe848", func := "loop.example/g03316/laws.FnExactDecodeBlock", spec := "fnExactDecodeBlock", named := ["loop.example/g03316/impl.bitWords"], apart := false, laid := [("loop.example/g03316/impl.bitWords", laid_loop_example_g03316_impl_bitWords)] }
def FnExactDecodeBlockSaid : Prop := fnExactDecodeBlockRow.holds Tryd.pinned (OpenSpec.ofChange fnExactDecodeBlockSpec)

/-- ITS FALSE NEIGHBOUR: 'it returns false'. Refute it at one input. -/
def fnExactDecodeBlockWrong : ChangeSpec := { name := "fnExactDecodeBlock", vars := ["loop.example/g03316/impl.bitWords"], fn := fun _ => fun
  | [d, g1] => { results := [.lit (.bool false)], args := [d], vars := [g1] }
  | _ => none }
def FnExactDecodeBlockWrongFalsely : Prop := fnExactDecodeBlockRow.holds Tryd.pinned (OpenSpec.ofChange fnExactDecodeBlockWrong)

/-- 'laws.FnBitsBack': WHATEVER THE INPUT: true; the input reads as it did. -/
def fnBitsBackSpec : ChangeSpec := { name := "fnBitsBack", vars := ["loop.example/g03316/impl.bitWords"], fn := fun _ => fun
  | [d, g1] => { results := [.lit (.bool true)], args := [d], vars := [g1] }
  | _ => none }
def fnBitsBackRow : OpenClaim := { program := "ytdponcannphboaadoor", sum := "7d39a4c69577d7e6d1afc5c1863860960e75ea8c1af100e4c4c65020cdefe848", func := "loop.example/g03316/laws.FnBitsBack", spec := "fnBitsBack", unfollowed := true, recurses := true, named := ["loop.example/g03316/impl.bitWords"], apart := false, laid := [("loop.example/g03316/impl.bitWords", laid_loop_example_g03316_impl_bitWords)] }
def FnBitsBackSaid : Prop := fnBitsBackRow.holds Tryd.pinned (OpenSpec.ofChange fnBitsBackSpec)

/-- ITS FALSE NEIGHBOUR: 'it returns false'. Refute it at one input. -/
def fnBitsBackWrong : ChangeSpec := { name := "fnBitsBack", vars := ["loop.example/g03316/impl.bitWords"], fn := fun _ => fun
  | [d, g1] => { results := [.lit (.bool false)], args := [d], vars := [g1] }
  | _ => none }
def FnBitsBackWrongFalsely : Prop := fnBitsBackRow.holds Tryd.pinned (OpenSpec.ofChange fnBitsBackWrong)

/- THE SECOND FORM. 'bulk': how many values and letters a reading holds, each counted each time it is reached (what is shared counts as often as it is met; a slice's spare places count too). A statement '..UptoSaid' is the law's where the arguments, and the package variables that the reading takes, are together of bulk at most 1048576: NARROWER than '..Said'. Prove '..Said' where nothing that the law and all that it calls make is longer than what came in: it says more and counts as full. Else prove '..UptoSaid'. A law counts once. -/
mutual
def uptoBulk {H : Type} : DataW H → Nat
  | .lit (.string bytes) => bytes.length + 1
  | .lit _ => 1
  | .nil => 1
  | .ptr d => uptoBulk d + 1
  | .slice elems spare => uptoBulkAll elems + uptoBulkAll spare + 1
  | .agg parts => uptoBulkAll parts + 1
  | .iface _ d => uptoBulk d + 1
  | .map entries => uptoBulkEntries entries + 1
  | .held _ => 1
def uptoBulkAll {H : Type} : List (DataW H) → Nat
  | [] => 0
  | d :: r => uptoBulk d + uptoBulkAll r
def uptoBulkEntries {H : Type} : List (Lit × DataW H) → Nat
  | [] => 0
  | x :: r => uptoBulkEntry x + uptoBulkEntries r
def uptoBulkEntry {H : Type} : Lit × DataW H → Nat
  | (.string bytes, d) => bytes.length + uptoBulk d + 1
  | (_, d) => uptoBulk d + 1
 end
def uptoSmall : (H : Type) → List (DataW H) → Bool := fun _ ds => decide (uptoBulkAll ds ≤ 1048576)
def OpenSpec.upto (s : _root_.Go.ChangeSpec) : _root_.Go.OpenSpec := { _root_.Go.OpenSpec.ofChange s with cond := some uptoSmall }

/-- 'laws.FnExactEncodeNibble', WHERE WHAT IT READS IS OF BULK AT MOST 1048576: true; the input reads as it did. -/
def fnExactEncodeNibbleUptoRow : OpenClaim := { program := "ytdponcannphboaadoor", sum := "7d39a4c69577d7e6d1afc5c1863860960e75ea8c1af100e4c4c65020cdefe848", func := "loop.example/g03316/laws.FnExactEncodeNibble", spec := "fnExactEncodeNibble", named := ["loop.example/g03316/impl.bitWords"], apart := false, laid := [("loop.example/g03316/impl.bitWords", laid_loop_example_g03316_impl_bitWords)], narrowed := true }
def FnExactEncodeNibbleUptoSaid : Prop := fnExactEncodeNibbleUptoRow.holds Tryd.pinned (OpenSpec.upto fnExactEncodeNibbleSpec)

/-- 'laws.FnExactDecodeNibble', WHERE WHAT IT READS IS OF BULK AT MOST 1048576: true; the input reads as it did. -/
def fnExactDecodeNibbleUptoRow : OpenClaim := { program := "ytdponcannphboaadoor", sum := "7d39a4c69577d7e6d1afc5c1863860960e75ea8c1af100e4c4c65020cdefe848", func := "loop.example/g03316/laws.FnExactDecodeNibble", spec := "fnExactDecodeNibble", named := ["loop.example/g03316/impl.bitWords"], apart := false, laid := [("loop.example/g03316/impl.bitWords", laid_loop_example_g03316_impl_bitWords)], narrowed := true }
def FnExactDecodeNibbleUptoSaid : Prop := fnExactDecodeNibbleUptoRow.holds Tryd.pinned (OpenSpec.upto fnExactDecodeNibbleSpec)

/-- 'laws.FnCodeWords', WHERE WHAT IT READS IS OF BULK AT MOST 1048576: true; the input reads as it did. -/
def fnCodeWordsUptoRow : OpenClaim := { program := "ytdponcannphboaadoor", sum := "7d39a4c69577d7e6d1afc5c1863860960e75ea8c1af100e4c4c65020cdefe848", func := "loop.example/g03316/laws.FnCodeWords", spec := "fnCodeWords", named := ["loop.example/g03316/impl.bitWords"], apart := false, laid := [("loop.example/g03316/impl.bitWords", laid_loop_example_g03316_impl_bitWords)], narrowed := true }
def FnCodeWordsUptoSaid : Prop := fnCodeWordsUptoRow.holds Tryd.pinned (OpenSpec.upto fnCodeWordsSpec)

/-- 'laws.FnExactEncodeBlock', WHERE WHAT IT READS IS OF BULK AT MOST 1048576: true; the input reads as it did. -/
def fnExactEncodeBlockUptoRow : OpenClaim := { program := "ytdponcannphboaadoor", sum := "7d39a4c69577d7e6d1afc5c1863860960e75ea8c1af100e4c4c65020cdefe848", func := "loop.example/g03316/laws.FnExactEncodeBlock", spec := "fnExactEncodeBlock", named := ["loop.example/g03316/impl.bitWords"], apart := false, laid := [("loop.example/g03316/impl.bitWords", laid_loop_example_g03316_impl_bitWords)], narrowed := true }
def FnExactEncodeBlockUptoSaid : Prop := fnExactEncodeBlockUptoRow.holds Tryd.pinned (OpenSpec.upto fnExactEncodeBlockSpec)

/-- 'laws.FnExactDecodeBlock', WHERE WHAT IT READS IS OF BULK AT MOST 1048576: true; the input reads as it did. -/
def fnExactDecodeBlockUptoRow : OpenClaim := { program := "ytdponcannphboaadoor", sum := "7d39a4c69577d7e6d1afc5c1863860960e75ea8c1af100e4c4c65020cdefe848", func := "loop.example/g03316/laws.FnExactDecodeBlock", spec := "fnExactDecodeBlock", named := ["loop.example/g03316/impl.bitWords"], apart := false, laid := [("loop.example/g03316/impl.bitWords", laid_loop_example_g03316_impl_bitWords)], narrowed := true }
def FnExactDecodeBlockUptoSaid : Prop := fnExactDecodeBlockUptoRow.holds Tryd.pinned (OpenSpec.upto fnExactDecodeBlockSpec)

/-- 'laws.FnBitsBack', WHERE WHAT IT READS IS OF BULK AT MOST 1048576: true; the input reads as it did. -/
def fnBitsBackUptoRow : OpenClaim := { program := "ytdponcannphboaadoor", sum := "7d39a4c69577d7e6d1afc5c1863860960e75ea8c1af100e4c4c65020cdefe848", func := "loop.example/g03316/laws.FnBitsBack", spec := "fnBitsBack", unfollowed := true, recurses := true, named := ["loop.example/g03316/impl.bitWords"], apart := false, laid := [("loop.example/g03316/impl.bitWords", laid_loop_example_g03316_impl_bitWords)], narrowed := true }
def FnBitsBackUptoSaid : Prop := fnBitsBackUptoRow.holds Tryd.pinned (OpenSpec.upto fnBitsBackSpec)

end Rows
end Go.Proofs.YtdponcannphboaaDoor
