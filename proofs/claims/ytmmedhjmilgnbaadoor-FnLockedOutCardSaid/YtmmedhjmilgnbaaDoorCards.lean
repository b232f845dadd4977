/-
  DERIVED. GIVEN WITH THE SEED: THE CARDS: each row of YtmmedhjmilgnbaaDoorRows.lean that lists a variable, with what it lists TIED to the program's text (the seventh form; the later family's looks); each row that meets fmt, with fmt's text TOLD by the authors' own Lean function (tested against real Go, not proved from fmt's source: count such statements apart). THE CARD IS WHAT COUNTS. Prove the row's statement (the work); the ties are given (YtmmedhjmilgnbaaDoorTie.lean); close each card by the builder's one call (the guide's Derived/Test/ToyasCard.lean, 'card_holds'). Laid BY PROGRAM, IN A SANDBOX (cutbox-door.mjs). By AI agents, Wed Nov 11 2026. No macro, syntax, notation, axiom, sorry.
-/
import Derived.Test.YtmmedhjmilgnbaaDoorRows
import GoSem.ClaimSeven
namespace Go.Proofs.YtmmedhjmilgnbaaDoor
namespace Rows

/-- THE TIED CARD OF 'laws.FnTakenOnce'. -/
def fnTakenOnceCard : Claim7 := { stood := { row := fnTakenOnceRow, standIns := [], harness := (true, "c32788b5f94a3fcffb15109f10c157f2ab861d4c07c9140af9a779b21a0bc40e"), looks := true }, kinds := [], alts := [], laidByText := true, laidKinds := [.sentinel, .sentinel, .sentinel], laidTests := true, laidLooks := .later }
def FnTakenOnceCardSaid : Prop := Claim7.holds Tryd.pinned (.plain (OpenSpec.ofChange fnTakenOnceSpec)) fnTakenOnceCard

/-- THE TIED CARD OF 'laws.FnLockedOut'. -/
def fnLockedOutCard : Claim7 := { stood := { row := fnLockedOutRow, standIns := [], harness := (true, "c32788b5f94a3fcffb15109f10c157f2ab861d4c07c9140af9a779b21a0bc40e"), looks := true }, kinds := [], alts := [], laidByText := true, laidKinds := [.sentinel, .sentinel, .sentinel], laidTests := true, laidLooks := .later }
def FnLockedOutCardSaid : Prop := Claim7.holds Tryd.pinned (.plain (OpenSpec.ofChange fnLockedOutSpec)) fnLockedOutCard

/-- THE TIED CARD OF 'laws.FnExactTakeCommand'. -/
def fnExactTakeCommandCard : Claim7 := { stood := { row := fnExactTakeCommandRow, standIns := [], harness := (true, "c32788b5f94a3fcffb15109f10c157f2ab861d4c07c9140af9a779b21a0bc40e"), looks := true }, kinds := [], alts := [], laidByText := true, laidKinds := [.sentinel, .sentinel, .sentinel], laidTests := true, laidLooks := .later }
def FnExactTakeCommandCardSaid : Prop := Claim7.holds Tryd.pinned (.plain (OpenSpec.ofChange fnExactTakeCommandSpec)) fnExactTakeCommandCard

/-- THE SECOND FORM's CARD OF 'laws.FnTakenOnce'. -/
def fnTakenOnceUptoCard : Claim7 := { stood := { row := fnTakenOnceUptoRow, standIns := [], harness := (true, "c32788b5f94a3fcffb15109f10c157f2ab861d4c07c9140af9a779b21a0bc40e"), looks := true }, kinds := [], alts := [], laidByText := true, laidKinds := [.sentinel, .sentinel, .sentinel], laidTests := true, laidLooks := .later }
def FnTakenOnceUptoCardSaid : Prop := Claim7.holds Tryd.pinned (.plain (OpenSpec.upto fnTakenOnceSpec)) fnTakenOnceUptoCard

/-- THE SECOND FORM's CARD OF 'laws.FnLockedOut'. -/
def fnLockedOutUptoCard : Claim7 := { stood := { row := fnLockedOutUptoRow, standIns := [], harness := (true, "c32788b5f94a3fcffb15109f10c157f2ab861d4c07c9140af9a779b21a0bc40e"), looks := true }, kinds := [], alts := [], laidByText := true, laidKinds := [.sentinel, .sentinel, .sentinel], laidTests := true, laidLooks := .later }
def FnLockedOutUptoCardSaid : Prop := Claim7.holds Tryd.pinned (.plain (OpenSpec.upto fnLockedOutSpec)) fnLockedOutUptoCard

/-- THE SECOND FORM's CARD OF 'laws.FnExactTakeCommand'. -/
def fnExactTakeCommandUptoCard : Claim7 := { stood := { row := fnExactTakeCommandUptoRow, standIns := [], harness := (true, "c32788b5f94a3fcffb15109f10c157f2ab861d4c07c9140af9a779b21a0bc40e"), looks := true }, kinds := [], alts := [], laidByText := true, laidKinds := [.sentinel, .sentinel, .sentinel], laidTests := true, laidLooks := .later }
def FnExactTakeCommandUptoCardSaid : Prop := Claim7.holds Tryd.pinned (.plain (OpenSpec.upto fnExactTakeCommandSpec)) fnExactTakeCommandUptoCard
end Rows
end Go.Proofs.YtmmedhjmilgnbaaDoor
