/-
  No cell of these rows narrows 'for every input' (looked for: loops, veiled, ifaces, maps, wideKeys, modest, calm, conditions, laid).
  DERIVED. THE GIVEN ROWS OF THIS SEAT. 4 by the template 'for every input the law returns true; each argument reads behind the call as it read before'; 0 by the template 'total and deterministic' (their statements: YtdponcannphboaaTotals.lean).
  GIVEN WITH THE SEED: the statements are not yours to turn. If you find one false, say at which input.
  Laid BY PROGRAM, IN A SANDBOX (cutbox-rows.mjs): the forced cells as the released guide's own fill.sh prints them over the translation c8abe9e2686bada2… (all of the seat's roots in one cut). By AI agents, Wed Nov 11 2026. No macro, syntax, notation, axiom, sorry.
-/
import Derived.Test.YtdponcannphboaaChecked
import GoSem.Claim
import GoSem.ClaimJoined
import GoSem.ClaimMapViews
import Derived.JoinedTies
import Derived.KernelRfl
namespace Go.Proofs.Ytdponcannphboaa
/- THE CELL 'sum', in the pinned program and in every row, IS THE sha256 OF THE DUMP (.gsa) THAT YtdponcannphboaaProg.lean LOADS. Nothing in Lean hashes anything: it is a label: what it is worth is what the hold of that sum in a sandbox is worth. -/
noncomputable def Try.pinned : Pinned := { name := "ytdponcannphboaa", sum := "c8abe9e2686bada2e2e7b39ad7a1abb32295e1a3275713cfddfce0db782968ed", checked := Try.checked }
namespace Rows
def none {H : Type} : Left H := { results := [], args := [] }

/-- 'laws.FnExactChannelOk': WHATEVER THE INPUT: true; the input reads as it did. -/
def fnExactChannelOkSpec : ChangeSpec := { name := "fnExactChannelOk", fn := fun _ => fun
  | [d] => { results := [.lit (.bool true)], args := [d] }
  | _ => none }
def fnExactChannelOkRow : OpenClaim := { program := "ytdponcannphboaa", sum := "c8abe9e2686bada2e2e7b39ad7a1abb32295e1a3275713cfddfce0db782968ed", func := "loop.example/g03316/laws.FnExactChannelOk", spec := "fnExactChannelOk", apart := false }
def FnExactChannelOkSaid : Prop := fnExactChannelOkRow.holds Try.pinned (OpenSpec.ofChange fnExactChannelOkSpec)

/-- ITS FALSE NEIGHBOUR: 'it returns false'. Refute it at one input. -/
def fnExactChannelOkWrong : ChangeSpec := { name := "fnExactChannelOk", fn := fun _ => fun
  | [d] => { results := [.lit (.bool false)], args := [d] }
  | _ => none }
def FnExactChannelOkWrongFalsely : Prop := fnExactChannelOkRow.holds Try.pinned (OpenSpec.ofChange fnExactChannelOkWrong)

/-- 'laws.FnExactSpreadBits': WHATEVER THE INPUT: true; the input reads as it did. -/
def fnExactSpreadBitsSpec : ChangeSpec := { name := "fnExactSpreadBits", fn := fun _ => fun
  | [d] => { results := [.lit (.bool true)], args := [d] }
  | _ => none }
def fnExactSpreadBitsRow : OpenClaim := { program := "ytdponcannphboaa", sum := "c8abe9e2686bada2e2e7b39ad7a1abb32295e1a3275713cfddfce0db782968ed", func := "loop.example/g03316/laws.FnExactSpreadBits", spec := "fnExactSpreadBits", unfollowed := true, recurses := true, apart := false }
def FnExactSpreadBitsSaid : Prop := fnExactSpreadBitsRow.holds Try.pinned (OpenSpec.ofChange fnExactSpreadBitsSpec)

/-- ITS FALSE NEIGHBOUR: 'it returns false'. Refute it at one input. -/
def fnExactSpreadBitsWrong : ChangeSpec := { name := "fnExactSpreadBits", fn := fun _ => fun
  | [d] => { results := [.lit (.bool false)], args := [d] }
  | _ => none }
def FnExactSpreadBitsWrongFalsely : Prop := fnExactSpreadBitsRow.holds Try.pinned (OpenSpec.ofChange fnExactSpreadBitsWrong)

/-- 'laws.FnExactGatherBits': WHATEVER THE INPUT: true; the input reads as it did. -/
def fnExactGatherBitsSpec : ChangeSpec := { name := "fnExactGatherBits", fn := fun _ => fun
  | [d] => { results := [.lit (.bool true)], args := [d] }
  | _ => none }
def fnExactGatherBitsRow : OpenClaim := { program := "ytdponcannphboaa", sum := "c8abe9e2686bada2e2e7b39ad7a1abb32295e1a3275713cfddfce0db782968ed", func := "loop.example/g03316/laws.FnExactGatherBits", spec := "fnExactGatherBits", unfollowed := true, recurses := true, apart := false }
def FnExactGatherBitsSaid : Prop := fnExactGatherBitsRow.holds Try.pinned (OpenSpec.ofChange fnExactGatherBitsSpec)

/-- ITS FALSE NEIGHBOUR: 'it returns false'. Refute it at one input. -/
def fnExactGatherBitsWrong : ChangeSpec := { name := "fnExactGatherBits", fn := fun _ => fun
  | [d] => { results := [.lit (.bool false)], args := [d] }
  | _ => none }
def FnExactGatherBitsWrongFalsely : Prop := fnExactGatherBitsRow.holds Try.pinned (OpenSpec.ofChange fnExactGatherBitsWrong)

/-- 'laws.FnExactScramble': WHATEVER THE INPUT: true; the input reads as it did. -/
def fnExactScrambleSpec : ChangeSpec := { name := "fnExactScramble", fn := fun _ => fun
  | [d] => { results := [.lit (.bool true)], args := [d] }
  | _ => none }
def fnExactScrambleRow : OpenClaim := { program := "ytdponcannphboaa", sum := "c8abe9e2686bada2e2e7b39ad7a1abb32295e1a3275713cfddfce0db782968ed", func := "loop.example/g03316/laws.FnExactScramble", spec := "fnExactScramble", apart := false }
def FnExactScrambleSaid : Prop := fnExactScrambleRow.holds Try.pinned (OpenSpec.ofChange fnExactScrambleSpec)

/-- ITS FALSE NEIGHBOUR: 'it returns false'. Refute it at one input. -/
def fnExactScrambleWrong : ChangeSpec := { name := "fnExactScramble", fn := fun _ => fun
  | [d] => { results := [.lit (.bool false)], args := [d] }
  | _ => none }
def FnExactScrambleWrongFalsely : Prop := fnExactScrambleRow.holds Try.pinned (OpenSpec.ofChange fnExactScrambleWrong)

/- THE SECOND FORM. 'bulk': how many values and letters a reading holds, each counted each time it is reached (what is shared counts as often as it is met; a slice's spare places count too). A statement '..UptoSaid' is the law's where the arguments, and the package variables that the reading takes, are together of bulk at most 1048576: NARROWER than '..Said'. Prove '..Said' where nothing that the law and all that it calls make is longer than what came in: it says more and counts as full. Else prove '..UptoSaid'. A law counts once. -/
mutual
def uptoBulk {H : Type} : DataW H → Nat
  | .lit (.string bytes) => bytes.length + 1
  | .lit _ => 1
  | .nil => 1
  | .ptr d => uptoBulk d + 1
  | .slice elems spare => uptoBulkAll elems + uptoBulkAll spare + 1
  | .agg parts => uptoBulkAll parts + 1
  | .iface _ d => uptoBulk d + 1
  | .map entries => uptoBulkEntries entries + 1
  | .held _ => 1
def uptoBulkAll {H : Type} : List (DataW H) → Nat
  | [] => 0
  | d :: r => uptoBulk d + uptoBulkAll r
def uptoBulkEntries {H : Type} : List (Lit × DataW H) → Nat
  | [] => 0
  | x :: r => uptoBulkEntry x + uptoBulkEntries r
def uptoBulkEntry {H : Type} : Lit × DataW H → Nat
  | (.string bytes, d) => bytes.length + uptoBulk d + 1
  | (_, d) => uptoBulk d + 1
 end
def uptoSmall : (H : Type) → List (DataW H) → Bool := fun _ ds => decide (uptoBulkAll ds ≤ 1048576)
def OpenSpec.upto (s : _root_.Go.ChangeSpec) : _root_.Go.OpenSpec := { _root_.Go.OpenSpec.ofChange s with cond := some uptoSmall }

/-- 'laws.FnExactChannelOk', WHERE WHAT IT READS IS OF BULK AT MOST 1048576: true; the input reads as it did. -/
def fnExactChannelOkUptoRow : OpenClaim := { program := "ytdponcannphboaa", sum := "c8abe9e2686bada2e2e7b39ad7a1abb32295e1a3275713cfddfce0db782968ed", func := "loop.example/g03316/laws.FnExactChannelOk", spec := "fnExactChannelOk", apart := false, narrowed := true }
def FnExactChannelOkUptoSaid : Prop := fnExactChannelOkUptoRow.holds Try.pinned (OpenSpec.upto fnExactChannelOkSpec)

/-- 'laws.FnExactSpreadBits', WHERE WHAT IT READS IS OF BULK AT MOST 1048576: true; the input reads as it did. -/
def fnExactSpreadBitsUptoRow : OpenClaim := { program := "ytdponcannphboaa", sum := "c8abe9e2686bada2e2e7b39ad7a1abb32295e1a3275713cfddfce0db782968ed", func := "loop.example/g03316/laws.FnExactSpreadBits", spec := "fnExactSpreadBits", unfollowed := true, recurses := true, apart := false, narrowed := true }
def FnExactSpreadBitsUptoSaid : Prop := fnExactSpreadBitsUptoRow.holds Try.pinned (OpenSpec.upto fnExactSpreadBitsSpec)

/-- 'laws.FnExactGatherBits', WHERE WHAT IT READS IS OF BULK AT MOST 1048576: true; the input reads as it did. -/
def fnExactGatherBitsUptoRow : OpenClaim := { program := "ytdponcannphboaa", sum := "c8abe9e2686bada2e2e7b39ad7a1abb32295e1a3275713cfddfce0db782968ed", func := "loop.example/g03316/laws.FnExactGatherBits", spec := "fnExactGatherBits", unfollowed := true, recurses := true, apart := false, narrowed := true }
def FnExactGatherBitsUptoSaid : Prop := fnExactGatherBitsUptoRow.holds Try.pinned (OpenSpec.upto fnExactGatherBitsSpec)

/-- 'laws.FnExactScramble', WHERE WHAT IT READS IS OF BULK AT MOST 1048576: true; the input reads as it did. -/
def fnExactScrambleUptoRow : OpenClaim := { program := "ytdponcannphboaa", sum := "c8abe9e2686bada2e2e7b39ad7a1abb32295e1a3275713cfddfce0db782968ed", func := "loop.example/g03316/laws.FnExactScramble", spec := "fnExactScramble", apart := false, narrowed := true }
def FnExactScrambleUptoSaid : Prop := fnExactScrambleUptoRow.holds Try.pinned (OpenSpec.upto fnExactScrambleSpec)

end Rows
end Go.Proofs.Ytdponcannphboaa
