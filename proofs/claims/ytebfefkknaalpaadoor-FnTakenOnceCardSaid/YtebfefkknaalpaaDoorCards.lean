/-
  DERIVED. GIVEN WITH THE SEED: THE CARDS: each row of YtebfefkknaalpaaDoorRows.lean that lists a variable, with what it lists TIED to the program's text (the seventh form; the later family's looks); each row that meets fmt, with fmt's text TOLD by the authors' own Lean function (tested against real Go, not proved from fmt's source: count such statements apart). THE CARD IS WHAT COUNTS. Prove the row's statement (the work); the ties are given (YtebfefkknaalpaaDoorTie.lean); close each card by the builder's one call (the guide's Derived/Test/ToyasCard.lean, 'card_holds'). Laid BY PROGRAM, IN A SANDBOX (cutbox-door.mjs). By AI agents, Wed Nov 11 2026. No macro, syntax, notation, axiom, sorry.
-/
import Derived.Test.YtebfefkknaalpaaDoorRows
import GoSem.ClaimSeven
namespace Go.Proofs.YtebfefkknaalpaaDoor
namespace Rows

/-- THE TIED CARD OF 'laws.FnTakenOnce'. -/
def fnTakenOnceCard : Claim7 := { stood := { row := fnTakenOnceRow, standIns := [], harness := (true, "bbfc34bd53bd6a0828ca68f65253b79affa89304483da974010194c189b04cad"), looks := true }, kinds := [], alts := [], laidByText := true, laidKinds := [.sentinel, .sentinel, .sentinel], laidTests := true, laidLooks := .later }
def FnTakenOnceCardSaid : Prop := Claim7.holds Tryd.pinned (.plain (OpenSpec.ofChange fnTakenOnceSpec)) fnTakenOnceCard

/-- THE SECOND FORM's CARD OF 'laws.FnTakenOnce'. -/
def fnTakenOnceUptoCard : Claim7 := { stood := { row := fnTakenOnceUptoRow, standIns := [], harness := (true, "bbfc34bd53bd6a0828ca68f65253b79affa89304483da974010194c189b04cad"), looks := true }, kinds := [], alts := [], laidByText := true, laidKinds := [.sentinel, .sentinel, .sentinel], laidTests := true, laidLooks := .later }
def FnTakenOnceUptoCardSaid : Prop := Claim7.holds Tryd.pinned (.plain (OpenSpec.upto fnTakenOnceSpec)) fnTakenOnceUptoCard
end Rows
end Go.Proofs.YtebfefkknaalpaaDoor
