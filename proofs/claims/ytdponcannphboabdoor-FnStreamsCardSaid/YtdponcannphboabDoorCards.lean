/-
  DERIVED. GIVEN WITH THE SEED: THE CARDS: each row of YtdponcannphboabDoorRows.lean that lists a variable, with what it lists TIED to the program's text (the seventh form; the later family's looks); each row that meets fmt, with fmt's text TOLD by the authors' own Lean function (tested against real Go, not proved from fmt's source: count such statements apart). THE CARD IS WHAT COUNTS. Prove the row's statement (the work); the ties are given (YtdponcannphboabDoorTie.lean); close each card by the builder's one call (the guide's Derived/Test/ToyasCard.lean, 'card_holds'). Laid BY PROGRAM, IN A SANDBOX (cutbox-door.mjs). By AI agents, Wed Nov 11 2026. No macro, syntax, notation, axiom, sorry.
-/
import Derived.Test.YtdponcannphboabDoorRows
import GoSem.ClaimSeven
namespace Go.Proofs.YtdponcannphboabDoor
namespace Rows

/-- THE TIED CARD OF 'laws.FnExactMakeBlock'. -/
def fnExactMakeBlockCard : Claim7 := { stood := { row := fnExactMakeBlockRow, standIns := [], harness := (true, "eec184eae1aa86d771da481bc13cc60c550b5f802dea8fa2ef5e8dbf6b4338b8"), looks := false }, kinds := [], alts := [], laidByText := true, laidKinds := [.data], laidTests := true, laidLooks := .later }
def FnExactMakeBlockCardSaid : Prop := Claim7.holds Tryd.pinned (.plain (OpenSpec.ofChange fnExactMakeBlockSpec)) fnExactMakeBlockCard

/-- THE TIED CARD OF 'laws.FnExactReadBlock'. -/
def fnExactReadBlockCard : Claim7 := { stood := { row := fnExactReadBlockRow, standIns := [], harness := (true, "eec184eae1aa86d771da481bc13cc60c550b5f802dea8fa2ef5e8dbf6b4338b8"), looks := false }, kinds := [], alts := [], laidByText := true, laidKinds := [.data], laidTests := true, laidLooks := .later }
def FnExactReadBlockCardSaid : Prop := Claim7.holds Tryd.pinned (.plain (OpenSpec.ofChange fnExactReadBlockSpec)) fnExactReadBlockCard

/-- THE TIED CARD OF 'laws.FnBursts'. -/
def fnBurstsCard : Claim7 := { stood := { row := fnBurstsRow, standIns := [], harness := (true, "eec184eae1aa86d771da481bc13cc60c550b5f802dea8fa2ef5e8dbf6b4338b8"), looks := false }, kinds := [], alts := [], laidByText := true, laidKinds := [.data], laidTests := true, laidLooks := .later }
def FnBurstsCardSaid : Prop := Claim7.holds Tryd.pinned (.plain (OpenSpec.ofChange fnBurstsSpec)) fnBurstsCard

/-- THE TIED CARD OF 'laws.FnChannels'. -/
def fnChannelsCard : Claim7 := { stood := { row := fnChannelsRow, standIns := [], harness := (true, "eec184eae1aa86d771da481bc13cc60c550b5f802dea8fa2ef5e8dbf6b4338b8"), looks := false }, kinds := [], alts := [], laidByText := true, laidKinds := [.data], laidTests := true, laidLooks := .later }
def FnChannelsCardSaid : Prop := Claim7.holds Tryd.pinned (.plain (OpenSpec.ofChange fnChannelsSpec)) fnChannelsCard

/-- THE TIED CARD OF 'laws.FnExactBlocksOf'. -/
def fnExactBlocksOfCard : Claim7 := { stood := { row := fnExactBlocksOfRow, standIns := [], harness := (true, "eec184eae1aa86d771da481bc13cc60c550b5f802dea8fa2ef5e8dbf6b4338b8"), looks := false }, kinds := [], alts := [], laidByText := true, laidKinds := [.data], laidTests := true, laidLooks := .later }
def FnExactBlocksOfCardSaid : Prop := Claim7.holds Tryd.pinned (.plain (OpenSpec.ofChange fnExactBlocksOfSpec)) fnExactBlocksOfCard

/-- THE TIED CARD OF 'laws.FnStreams'. -/
def fnStreamsCard : Claim7 := { stood := { row := fnStreamsRow, standIns := [], harness := (true, "eec184eae1aa86d771da481bc13cc60c550b5f802dea8fa2ef5e8dbf6b4338b8"), looks := false }, kinds := [], alts := [], laidByText := true, laidKinds := [.data], laidTests := true, laidLooks := .later }
def FnStreamsCardSaid : Prop := Claim7.holds Tryd.pinned (.plain (OpenSpec.ofChange fnStreamsSpec)) fnStreamsCard

/-- THE SECOND FORM's CARD OF 'laws.FnExactMakeBlock'. -/
def fnExactMakeBlockUptoCard : Claim7 := { stood := { row := fnExactMakeBlockUptoRow, standIns := [], harness := (true, "eec184eae1aa86d771da481bc13cc60c550b5f802dea8fa2ef5e8dbf6b4338b8"), looks := false }, kinds := [], alts := [], laidByText := true, laidKinds := [.data], laidTests := true, laidLooks := .later }
def FnExactMakeBlockUptoCardSaid : Prop := Claim7.holds Tryd.pinned (.plain (OpenSpec.upto fnExactMakeBlockSpec)) fnExactMakeBlockUptoCard

/-- THE SECOND FORM's CARD OF 'laws.FnExactReadBlock'. -/
def fnExactReadBlockUptoCard : Claim7 := { stood := { row := fnExactReadBlockUptoRow, standIns := [], harness := (true, "eec184eae1aa86d771da481bc13cc60c550b5f802dea8fa2ef5e8dbf6b4338b8"), looks := false }, kinds := [], alts := [], laidByText := true, laidKinds := [.data], laidTests := true, laidLooks := .later }
def FnExactReadBlockUptoCardSaid : Prop := Claim7.holds Tryd.pinned (.plain (OpenSpec.upto fnExactReadBlockSpec)) fnExactReadBlockUptoCard

/-- THE SECOND FORM's CARD OF 'laws.FnBursts'. -/
def fnBurstsUptoCard : Claim7 := { stood := { row := fnBurstsUptoRow, standIns := [], harness := (true, "eec184eae1aa86d771da481bc13cc60c550b5f802dea8fa2ef5e8dbf6b4338b8"), looks := false }, kinds := [], alts := [], laidByText := true, laidKinds := [.data], laidTests := true, laidLooks := .later }
def FnBurstsUptoCardSaid : Prop := Claim7.holds Tryd.pinned (.plain (OpenSpec.upto fnBurstsSpec)) fnBurstsUptoCard

/-- THE SECOND FORM's CARD OF 'laws.FnChannels'. -/
def fnChannelsUptoCard : Claim7 := { stood := { row := fnChannelsUptoRow, standIns := [], harness := (true, "eec184eae1aa86d771da481bc13cc60c550b5f802dea8fa2ef5e8dbf6b4338b8"), looks := false }, kinds := [], alts := [], laidByText := true, laidKinds := [.data], laidTests := true, laidLooks := .later }
def FnChannelsUptoCardSaid : Prop := Claim7.holds Tryd.pinned (.plain (OpenSpec.upto fnChannelsSpec)) fnChannelsUptoCard

/-- THE SECOND FORM's CARD OF 'laws.FnExactBlocksOf'. -/
def fnExactBlocksOfUptoCard : Claim7 := { stood := { row := fnExactBlocksOfUptoRow, standIns := [], harness := (true, "eec184eae1aa86d771da481bc13cc60c550b5f802dea8fa2ef5e8dbf6b4338b8"), looks := false }, kinds := [], alts := [], laidByText := true, laidKinds := [.data], laidTests := true, laidLooks := .later }
def FnExactBlocksOfUptoCardSaid : Prop := Claim7.holds Tryd.pinned (.plain (OpenSpec.upto fnExactBlocksOfSpec)) fnExactBlocksOfUptoCard

/-- THE SECOND FORM's CARD OF 'laws.FnStreams'. -/
def fnStreamsUptoCard : Claim7 := { stood := { row := fnStreamsUptoRow, standIns := [], harness := (true, "eec184eae1aa86d771da481bc13cc60c550b5f802dea8fa2ef5e8dbf6b4338b8"), looks := false }, kinds := [], alts := [], laidByText := true, laidKinds := [.data], laidTests := true, laidLooks := .later }
def FnStreamsUptoCardSaid : Prop := Claim7.holds Tryd.pinned (.plain (OpenSpec.upto fnStreamsSpec)) fnStreamsUptoCard
end Rows
end Go.Proofs.YtdponcannphboabDoor
