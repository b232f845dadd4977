/-
  NARROWER THAN 'FOR EVERY INPUT', by the rows' own cells (each row's printed sentence says how): FnTakenOnce: ifaces, laid.
  DERIVED. THE GIVEN ROWS OF THIS SEAT. 1 by the template 'for every input the law returns true; each argument reads behind the call as it read before'; 0 by the template 'total and deterministic' (their statements: YtebfefkknaalpaaDoorTotals.lean).
  GIVEN WITH THE SEED: the statements are not yours to turn. If you find one false, say at which input.
  Laid BY PROGRAM, IN A SANDBOX (cutbox-rows.mjs): the forced cells as the released guide's own fill.sh prints them over the translation d8ca15891e4ba6ef… (all of the seat's roots in one cut). By AI agents, Wed Nov 11 2026. No macro, syntax, notation, axiom, sorry.
-/
import Derived.Test.YtebfefkknaalpaaDoorChecked
import GoSem.Claim
import GoSem.ClaimJoined
import GoSem.ClaimMapViews
import Derived.JoinedTies
import Derived.KernelRfl
namespace Go.Proofs.YtebfefkknaalpaaDoor
/- THE CELL 'sum', in the pinned program and in every row, IS THE sha256 OF THE DUMP (.gsa) THAT YtebfefkknaalpaaDoorProg.lean LOADS. Nothing in Lean hashes anything: it is a label: what it is worth is what the hold of that sum in a sandbox is worth. -/
noncomputable def Tryd.pinned : Pinned := { name := "ytebfefkknaalpaadoor", sum := "d8ca15891e4ba6efbbfbdfcc8e093a88b2db894ea91f91164a1bf803e3122dd7", checked := Tryd.checked }
namespace Rows
def none {H : Type} : Left H := { results := [], args := [] }

/- WHAT THE LISTED PACKAGE-LEVEL VARIABLES READ AS WHEN THE CALL BEGINS. Each datum BY PROGRAM (the guide's laid-datum.mjs) off the statement by which the dump's own 'gosem.cut.vars' lays the variable. In a bare row this is a premise. The card (YtebfefkknaalpaaDoorCards.lean) ties it to the program's text. -/
def laid_loop_example_g03316_impl_errAsksAgain {H : Type} : DataW H := .iface "*errors.errorString" (.ptr (.agg [.lit (.string [97, 32, 99, 111, 109, 109, 97, 110, 100, 32, 98, 101, 102, 111, 114, 101, 32, 116, 104, 105, 115, 32, 111, 110, 101, 32, 105, 115, 32, 109, 105, 115, 115, 105, 110, 103])]))
def laid_loop_example_g03316_impl_errLocks {H : Type} : DataW H := .iface "*errors.errorString" (.ptr (.agg [.lit (.string [116, 104, 101, 32, 99, 111, 109, 109, 97, 110, 100, 32, 105, 115, 32, 102, 97, 114, 32, 111, 102, 102])]))
def laid_loop_example_g03316_impl_errIgnores {H : Type} : DataW H := .iface "*errors.errorString" (.ptr (.agg [.lit (.string [116, 104, 101, 32, 99, 111, 109, 109, 97, 110, 100, 32, 99, 104, 97, 110, 103, 101, 115, 32, 110, 111, 116, 104, 105, 110, 103])]))

/-- 'laws.FnTakenOnce': WHATEVER THE INPUT: true; the input reads as it did. -/
def fnTakenOnceSpec : ChangeSpec := { name := "fnTakenOnce", vars := ["loop.example/g03316/impl.errAsksAgain", "loop.example/g03316/impl.errLocks", "loop.example/g03316/impl.errIgnores"], fn := fun _ => fun
  | [d, g1, g2, g3] => { results := [.lit (.bool true)], args := [d], vars := [g1, g2, g3] }
  | _ => none }
def fnTakenOnceRow : OpenClaim := { program := "ytebfefkknaalpaadoor", sum := "d8ca15891e4ba6efbbfbdfcc8e093a88b2db894ea91f91164a1bf803e3122dd7", func := "loop.example/g03316/laws.FnTakenOnce", spec := "fnTakenOnce", inPlace := ["internal/reflectlite.TypeOf"], unfollowed := true, recurses := true, named := ["loop.example/g03316/impl.errAsksAgain", "loop.example/g03316/impl.errLocks", "loop.example/g03316/impl.errIgnores"], ifaces := true, apart := false, laid := [("loop.example/g03316/impl.errAsksAgain", laid_loop_example_g03316_impl_errAsksAgain), ("loop.example/g03316/impl.errLocks", laid_loop_example_g03316_impl_errLocks), ("loop.example/g03316/impl.errIgnores", laid_loop_example_g03316_impl_errIgnores)] }
def FnTakenOnceSaid : Prop := fnTakenOnceRow.holds Tryd.pinned (OpenSpec.ofChange fnTakenOnceSpec)

/-- ITS FALSE NEIGHBOUR: 'it returns false'. Refute it at one input. -/
def fnTakenOnceWrong : ChangeSpec := { name := "fnTakenOnce", vars := ["loop.example/g03316/impl.errAsksAgain", "loop.example/g03316/impl.errLocks", "loop.example/g03316/impl.errIgnores"], fn := fun _ => fun
  | [d, g1, g2, g3] => { results := [.lit (.bool false)], args := [d], vars := [g1, g2, g3] }
  | _ => none }
def FnTakenOnceWrongFalsely : Prop := fnTakenOnceRow.holds Tryd.pinned (OpenSpec.ofChange fnTakenOnceWrong)

/- THE SECOND FORM. 'bulk': how many values and letters a reading holds, each counted each time it is reached (what is shared counts as often as it is met; a slice's spare places count too). A statement '..UptoSaid' is the law's where the arguments, and the package variables that the reading takes, are together of bulk at most 1048576: NARROWER than '..Said'. Prove '..Said' where nothing that the law and all that it calls make is longer than what came in: it says more and counts as full. Else prove '..UptoSaid'. A law counts once. -/
mutual
def uptoBulk {H : Type} : DataW H → Nat
  | .lit (.string bytes) => bytes.length + 1
  | .lit _ => 1
  | .nil => 1
  | .ptr d => uptoBulk d + 1
  | .slice elems spare => uptoBulkAll elems + uptoBulkAll spare + 1
  | .agg parts => uptoBulkAll parts + 1
  | .iface _ d => uptoBulk d + 1
  | .map entries => uptoBulkEntries entries + 1
  | .held _ => 1
def uptoBulkAll {H : Type} : List (DataW H) → Nat
  | [] => 0
  | d :: r => uptoBulk d + uptoBulkAll r
def uptoBulkEntries {H : Type} : List (Lit × DataW H) → Nat
  | [] => 0
  | x :: r => uptoBulkEntry x + uptoBulkEntries r
def uptoBulkEntry {H : Type} : Lit × DataW H → Nat
  | (.string bytes, d) => bytes.length + uptoBulk d + 1
  | (_, d) => uptoBulk d + 1
 end
def uptoSmall : (H : Type) → List (DataW H) → Bool := fun _ ds => decide (uptoBulkAll ds ≤ 1048576)
def OpenSpec.upto (s : _root_.Go.ChangeSpec) : _root_.Go.OpenSpec := { _root_.Go.OpenSpec.ofChange s with cond := some uptoSmall }

/-- 'laws.FnTakenOnce', WHERE WHAT IT READS IS OF BULK AT MOST 1048576: true; the input reads as it did. -/
def fnTakenOnceUptoRow : OpenClaim := { program := "ytebfefkknaalpaadoor", sum := "d8ca15891e4ba6efbbfbdfcc8e093a88b2db894ea91f91164a1bf803e3122dd7", func := "loop.example/g03316/laws.FnTakenOnce", spec := "fnTakenOnce", inPlace := ["internal/reflectlite.TypeOf"], unfollowed := true, recurses := true, named := ["loop.example/g03316/impl.errAsksAgain", "loop.example/g03316/impl.errLocks", "loop.example/g03316/impl.errIgnores"], ifaces := true, apart := false, laid := [("loop.example/g03316/impl.errAsksAgain", laid_loop_example_g03316_impl_errAsksAgain), ("loop.example/g03316/impl.errLocks", laid_loop_example_g03316_impl_errLocks), ("loop.example/g03316/impl.errIgnores", laid_loop_example_g03316_impl_errIgnores)], narrowed := true }
def FnTakenOnceUptoSaid : Prop := fnTakenOnceUptoRow.holds Tryd.pinned (OpenSpec.upto fnTakenOnceSpec)

end Rows
end Go.Proofs.YtebfefkknaalpaaDoor
