/-
  NARROWER THAN 'FOR EVERY INPUT', by the rows' own cells (each row's printed sentence says how): FnTakenOnce: ifaces, laid · FnLockedOut: ifaces, laid · FnExactTakeCommand: ifaces, laid.
  DERIVED. THE GIVEN ROWS OF THIS SEAT. 3 by the template 'for every input the law returns true; each argument reads behind the call as it read before'; 0 by the template 'total and deterministic' (their statements: YtmmedhjmilgnbaaDoorTotals.lean).
  GIVEN WITH THE SEED: the statements are not yours to turn. If you find one false, say at which input.
  Laid BY PROGRAM, IN A SANDBOX (cutbox-rows.mjs): the forced cells as the released guide's own fill.sh prints them over the translation c9a562d3ecc1b359… (all of the seat's roots in one cut). By AI agents, Wed Nov 11 2026. No macro, syntax, notation, axiom, sorry.
-/
import Derived.Test.YtmmedhjmilgnbaaDoorChecked
import GoSem.Claim
import GoSem.ClaimJoined
import GoSem.ClaimMapViews
import Derived.JoinedTies
import Derived.KernelRfl
namespace Go.Proofs.YtmmedhjmilgnbaaDoor
/- THE CELL 'sum', in the pinned program and in every row, IS THE sha256 OF THE DUMP (.gsa) THAT YtmmedhjmilgnbaaDoorProg.lean LOADS. Nothing in Lean hashes anything: it is a label: what it is worth is what the hold of that sum in a sandbox is worth. -/
noncomputable def Tryd.pinned : Pinned := { name := "ytmmedhjmilgnbaadoor", sum := "c9a562d3ecc1b359f9381cabe5a58832fef7e641694386c230bc053b6a4c579d", checked := Tryd.checked }
namespace Rows
def none {H : Type} : Left H := { results := [], args := [] }

/- WHAT THE LISTED PACKAGE-LEVEL VARIABLES READ AS WHEN THE CALL BEGINS. Each datum BY PROGRAM (the guide's laid-datum.mjs) off the statement by which the dump's own 'gosem.cut.vars' lays the variable. In a bare row this is a premise. The card (YtmmedhjmilgnbaaDoorCards.lean) ties it to the program's text. -/
def laid_loop_example_g03316_impl_errAsksAgain {H : Type} : DataW H := .iface "*errors.errorString" (.ptr (.agg [.lit (.string [97, 32, 99, 111, 109, 109, 97, 110, 100, 32, 98, 101, 102, 111, 114, 101, 32, 116, 104, 105, 115, 32, 111, 110, 101, 32, 105, 115, 32, 109, 105, 115, 115, 105, 110, 103])]))
def laid_loop_example_g03316_impl_errLocks {H : Type} : DataW H := .iface "*errors.errorString" (.ptr (.agg [.lit (.string [116, 104, 101, 32, 99, 111, 109, 109, 97, 110, 100, 32, 105, 115, 32, 102, 97, 114, 32, 111, 102, 102])]))
def laid_loop_example_g03316_impl_errIgnores {H : Type} : DataW H := .iface "*errors.errorString" (.ptr (.agg [.lit (.string [116, 104, 101, 32, 99, 111, 109, 109, 97, 110, 100, 32, 99, 104, 97, 110, 103, 101, 115, 32, 110, 111, 116, 104, 105, 110, 103])]))

/-- 'laws.FnTakenOnce': WHATEVER THE INPUT: true; the input reads as it did. -/
def fnTakenOnceSpec : ChangeSpec := { name := "fnTakenOnce", vars := ["loop.example/g03316/impl.errAsksAgain", "loop.example/g03316/impl.errLocks", "loop.example/g03316/impl.errIgnores"], fn := fun _ => fun
  | [d, g1, g2, g3] => { results := [.lit (.bool true)], args := [d], vars := [g1, g2, g3] }
  | _ => none }
def fnTakenOnceRow : OpenClaim := { program := "ytmmedhjmilgnbaadoor", sum := "c9a562d3ecc1b359f9381cabe5a58832fef7e641694386c230bc053b6a4c579d", func := "loop.example/g03316/laws.FnTakenOnce", spec := "fnTakenOnce", inPlace := ["internal/reflectlite.TypeOf"], unfollowed := true, recurses := true, named := ["loop.example/g03316/impl.errAsksAgain", "loop.example/g03316/impl.errLocks", "loop.example/g03316/impl.errIgnores"], ifaces := true, apart := false, laid := [("loop.example/g03316/impl.errAsksAgain", laid_loop_example_g03316_impl_errAsksAgain), ("loop.example/g03316/impl.errLocks", laid_loop_example_g03316_impl_errLocks), ("loop.example/g03316/impl.errIgnores", laid_loop_example_g03316_impl_errIgnores)] }
def FnTakenOnceSaid : Prop := fnTakenOnceRow.holds Tryd.pinned (OpenSpec.ofChange fnTakenOnceSpec)

/-- ITS FALSE NEIGHBOUR: 'it returns false'. Refute it at one input. -/
def fnTakenOnceWrong : ChangeSpec := { name := "fnTakenOnce", vars := ["loop.example/g03316/impl.errAsksAgain", "loop.example/g03316/impl.errLocks", "loop.example/g03316/impl.errIgnores"], fn := fun _ => fun
  | [d, g1, g2, g3] => { results := [.lit (.bool false)], args := [d], vars := [g1, g2, g3] }
  | _ => none }
def FnTakenOnceWrongFalsely : Prop := fnTakenOnceRow.holds Tryd.pinned (OpenSpec.ofChange fnTakenOnceWrong)

/-- 'laws.FnLockedOut': WHATEVER THE INPUT: true; the input reads as it did. -/
def fnLockedOutSpec : ChangeSpec := { name := "fnLockedOut", vars := ["loop.example/g03316/impl.errAsksAgain", "loop.example/g03316/impl.errLocks", "loop.example/g03316/impl.errIgnores"], fn := fun _ => fun
  | [d, g1, g2, g3] => { results := [.lit (.bool true)], args := [d], vars := [g1, g2, g3] }
  | _ => none }
def fnLockedOutRow : OpenClaim := { program := "ytmmedhjmilgnbaadoor", sum := "c9a562d3ecc1b359f9381cabe5a58832fef7e641694386c230bc053b6a4c579d", func := "loop.example/g03316/laws.FnLockedOut", spec := "fnLockedOut", inPlace := ["internal/reflectlite.TypeOf"], unfollowed := true, recurses := true, named := ["loop.example/g03316/impl.errAsksAgain", "loop.example/g03316/impl.errLocks", "loop.example/g03316/impl.errIgnores"], ifaces := true, apart := false, laid := [("loop.example/g03316/impl.errAsksAgain", laid_loop_example_g03316_impl_errAsksAgain), ("loop.example/g03316/impl.errLocks", laid_loop_example_g03316_impl_errLocks), ("loop.example/g03316/impl.errIgnores", laid_loop_example_g03316_impl_errIgnores)] }
def FnLockedOutSaid : Prop := fnLockedOutRow.holds Tryd.pinned (OpenSpec.ofChange fnLockedOutSpec)

/-- ITS FALSE NEIGHBOUR: 'it returns false'. Refute it at one input. -/
def fnLockedOutWrong : ChangeSpec := { name := "fnLockedOut", vars := ["loop.example/g03316/impl.errAsksAgain", "loop.example/g03316/impl.errLocks", "loop.example/g03316/impl.errIgnores"], fn := fun _ => fun
  | [d, g1, g2, g3] => { results := [.lit (.bool false)], args := [d], vars := [g1, g2, g3] }
  | _ => none }
def FnLockedOutWrongFalsely : Prop := fnLockedOutRow.holds Tryd.pinned (OpenSpec.ofChange fnLockedOutWrong)

/-- 'laws.FnExactTakeCommand': WHATEVER THE INPUT: true; the input reads as it did. -/
def fnExactTakeCommandSpec : ChangeSpec := { name := "fnExactTakeCommand", vars := ["loop.example/g03316/impl.errAsksAgain", "loop.example/g03316/impl.errLocks", "loop.example/g03316/impl.errIgnores"], fn := fun _ => fun
  | [d1, d2, g1, g2, g3] => { results := [.lit (.bool true)], args := [d1, d2], vars := [g1, g2, g3] }
  | _ => none }
def fnExactTakeCommandRow : OpenClaim := { program := "ytmmedhjmilgnbaadoor", sum := "c9a562d3ecc1b359f9381cabe5a58832fef7e641694386c230bc053b6a4c579d", func := "loop.example/g03316/laws.FnExactTakeCommand", spec := "fnExactTakeCommand", inPlace := ["internal/reflectlite.TypeOf"], unfollowed := true, recurses := true, named := ["loop.example/g03316/impl.errAsksAgain", "loop.example/g03316/impl.errLocks", "loop.example/g03316/impl.errIgnores"], ifaces := true, apart := false, laid := [("loop.example/g03316/impl.errAsksAgain", laid_loop_example_g03316_impl_errAsksAgain), ("loop.example/g03316/impl.errLocks", laid_loop_example_g03316_impl_errLocks), ("loop.example/g03316/impl.errIgnores", laid_loop_example_g03316_impl_errIgnores)] }
def FnExactTakeCommandSaid : Prop := fnExactTakeCommandRow.holds Tryd.pinned (OpenSpec.ofChange fnExactTakeCommandSpec)

/-- ITS FALSE NEIGHBOUR: 'it returns false'. Refute it at one input. -/
def fnExactTakeCommandWrong : ChangeSpec := { name := "fnExactTakeCommand", vars := ["loop.example/g03316/impl.errAsksAgain", "loop.example/g03316/impl.errLocks", "loop.example/g03316/impl.errIgnores"], fn := fun _ => fun
  | [d1, d2, g1, g2, g3] => { results := [.lit (.bool false)], args := [d1, d2], vars := [g1, g2, g3] }
  | _ => none }
def FnExactTakeCommandWrongFalsely : Prop := fnExactTakeCommandRow.holds Tryd.pinned (OpenSpec.ofChange fnExactTakeCommandWrong)

/- THE SECOND FORM. 'bulk': how many values and letters a reading holds, each counted each time it is reached (what is shared counts as often as it is met; a slice's spare places count too). A statement '..UptoSaid' is the law's where the arguments, and the package variables that the reading takes, are together of bulk at most 1048576: NARROWER than '..Said'. Prove '..Said' where nothing that the law and all that it calls make is longer than what came in: it says more and counts as full. Else prove '..UptoSaid'. A law counts once. -/
mutual
def uptoBulk {H : Type} : DataW H → Nat
  | .lit (.string bytes) => bytes.length + 1
  | .lit _ => 1
  | .nil => 1
  | .ptr d => uptoBulk d + 1
  | .slice elems spare => uptoBulkAll elems + uptoBulkAll spare + 1
  | .agg parts => uptoBulkAll parts + 1
  | .iface _ d => uptoBulk d + 1
  | .map entries => uptoBulkEntries entries + 1
  | .held _ => 1
def uptoBulkAll {H : Type} : List (DataW H) → Nat
  | [] => 0
  | d :: r => uptoBulk d + uptoBulkAll r
def uptoBulkEntries {H : Type} : List (Lit × DataW H) → Nat
  | [] => 0
  | x :: r => uptoBulkEntry x + uptoBulkEntries r
def uptoBulkEntry {H : Type} : Lit × DataW H → Nat
  | (.string bytes, d) => bytes.length + uptoBulk d + 1
  | (_, d) => uptoBulk d + 1
 end
def uptoSmall : (H : Type) → List (DataW H) → Bool := fun _ ds => decide (uptoBulkAll ds ≤ 1048576)
def OpenSpec.upto (s : _root_.Go.ChangeSpec) : _root_.Go.OpenSpec := { _root_.Go.OpenSpec.ofChange s with cond := some uptoSmall }

/-- 'laws.FnTakenOnce', WHERE WHAT IT READS IS OF BULK AT MOST 1048576: true; the input reads as it did. -/
def fnTakenOnceUptoRow : OpenClaim := { program := "ytmmedhjmilgnbaadoor", sum := "c9a562d3ecc1b359f9381cabe5a58832fef7e641694386c230bc053b6a4c579d", func := "loop.example/g03316/laws.FnTakenOnce", spec := "fnTakenOnce", inPlace := ["internal/reflectlite.TypeOf"], unfollowed := true, recurses := true, named := ["loop.example/g03316/impl.errAsksAgain", "loop.example/g03316/impl.errLocks", "loop.example/g03316/impl.errIgnores"], ifaces := true, apart := false, laid := [("loop.example/g03316/impl.errAsksAgain", laid_loop_example_g03316_impl_errAsksAgain), ("loop.example/g03316/impl.errLocks", laid_loop_example_g03316_impl_errLocks), ("loop.example/g03316/impl.errIgnores", laid_loop_example_g03316_impl_errIgnores)], narrowed := true }
def FnTakenOnceUptoSaid : Prop := fnTakenOnceUptoRow.holds Tryd.pinned (OpenSpec.upto fnTakenOnceSpec)

/-- 'laws.FnLockedOut', WHERE WHAT IT READS IS OF BULK AT MOST 1048576: true; the input reads as it did. -/
def fnLockedOutUptoRow : OpenClaim := { program := "ytmmedhjmilgnbaadoor", sum := "c9a562d3ecc1b359f9381cabe5a58832fef7e641694386c230bc053b6a4c579d", func := "loop.example/g03316/laws.FnLockedOut", spec := "fnLockedOut", inPlace := ["internal/reflectlite.TypeOf"], unfollowed := true, recurses := true, named := ["loop.example/g03316/impl.errAsksAgain", "loop.example/g03316/impl.errLocks", "loop.example/g03316/impl.errIgnores"], ifaces := true, apart := false, laid := [("loop.example/g03316/impl.errAsksAgain", laid_loop_example_g03316_impl_errAsksAgain), ("loop.example/g03316/impl.errLocks", laid_loop_example_g03316_impl_errLocks), ("loop.example/g03316/impl.errIgnores", laid_loop_example_g03316_impl_errIgnores)], narrowed := true }
def FnLockedOutUptoSaid : Prop := fnLockedOutUptoRow.holds Tryd.pinned (OpenSpec.upto fnLockedOutSpec)

/-- 'laws.FnExactTakeCommand', WHERE WHAT IT READS IS OF BULK AT MOST 1048576: true; the input reads as it did. -/
def fnExactTakeCommandUptoRow : OpenClaim := { program := "ytmmedhjmilgnbaadoor", sum := "c9a562d3ecc1b359f9381cabe5a58832fef7e641694386c230bc053b6a4c579d", func := "loop.example/g03316/laws.FnExactTakeCommand", spec := "fnExactTakeCommand", inPlace := ["internal/reflectlite.TypeOf"], unfollowed := true, recurses := true, named := ["loop.example/g03316/impl.errAsksAgain", "loop.example/g03316/impl.errLocks", "loop.example/g03316/impl.errIgnores"], ifaces := true, apart := false, laid := [("loop.example/g03316/impl.errAsksAgain", laid_loop_example_g03316_impl_errAsksAgain), ("loop.example/g03316/impl.errLocks", laid_loop_example_g03316_impl_errLocks), ("loop.example/g03316/impl.errIgnores", laid_loop_example_g03316_impl_errIgnores)], narrowed := true }
def FnExactTakeCommandUptoSaid : Prop := fnExactTakeCommandUptoRow.holds Tryd.pinned (OpenSpec.upto fnExactTakeCommandSpec)

end Rows
end Go.Proofs.YtmmedhjmilgnbaaDoor
