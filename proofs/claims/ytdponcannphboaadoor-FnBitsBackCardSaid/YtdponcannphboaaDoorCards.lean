/-
  DERIVED. GIVEN WITH THE SEED: THE CARDS: each row of YtdponcannphboaaDoorRows.lean that lists a variable, with what it lists TIED to the program's text (the seventh form; the later family's looks); each row that meets fmt, with fmt's text TOLD by the authors' own Lean function (tested against real Go, not proved from fmt's source: count such statements apart). THE CARD IS WHAT COUNTS. Prove the row's statement (the work); the ties are given (YtdponcannphboaaDoorTie.lean); close each card by the builder's one call (the guide's Derived/Test/ToyasCard.lean, 'card_holds'). Laid BY PROGRAM, IN A SANDBOX (cutbox-door.mjs). By AI agents, Wed Nov 11 2026. No macro, syntax, notation, axiom, sorry.
-/
import Derived.Test.YtdponcannphboaaDoorRows
import GoSem.ClaimSeven
namespace Go.Proofs.YtdponcannphboaaDoor
namespace Rows

/-- THE TIED CARD OF 'laws.FnExactEncodeNibble'. -/
def fnExactEncodeNibbleCard : Claim7 := { stood := { row := fnExactEncodeNibbleRow, standIns := [], harness := (true, "8e00d19a7881cad449db46554999a085415c1c9234b28278551f443e5004dc04"), looks := false }, kinds := [], alts := [], laidByText := true, laidKinds := [.data], laidTests := true, laidLooks := .later }
def FnExactEncodeNibbleCardSaid : Prop := Claim7.holds Tryd.pinned (.plain (OpenSpec.ofChange fnExactEncodeNibbleSpec)) fnExactEncodeNibbleCard

/-- THE TIED CARD OF 'laws.FnExactDecodeNibble'. -/
def fnExactDecodeNibbleCard : Claim7 := { stood := { row := fnExactDecodeNibbleRow, standIns := [], harness := (true, "8e00d19a7881cad449db46554999a085415c1c9234b28278551f443e5004dc04"), looks := false }, kinds := [], alts := [], laidByText := true, laidKinds := [.data], laidTests := true, laidLooks := .later }
def FnExactDecodeNibbleCardSaid : Prop := Claim7.holds Tryd.pinned (.plain (OpenSpec.ofChange fnExactDecodeNibbleSpec)) fnExactDecodeNibbleCard

/-- THE TIED CARD OF 'laws.FnCodeWords'. -/
def fnCodeWordsCard : Claim7 := { stood := { row := fnCodeWordsRow, standIns := [], harness := (true, "8e00d19a7881cad449db46554999a085415c1c9234b28278551f443e5004dc04"), looks := false }, kinds := [], alts := [], laidByText := true, laidKinds := [.data], laidTests := true, laidLooks := .later }
def FnCodeWordsCardSaid : Prop := Claim7.holds Tryd.pinned (.plain (OpenSpec.ofChange fnCodeWordsSpec)) fnCodeWordsCard

/-- THE TIED CARD OF 'laws.FnExactEncodeBlock'. -/
def fnExactEncodeBlockCard : Claim7 := { stood := { row := fnExactEncodeBlockRow, standIns := [], harness := (true, "8e00d19a7881cad449db46554999a085415c1c9234b28278551f443e5004dc04"), looks := false }, kinds := [], alts := [], laidByText := true, laidKinds := [.data], laidTests := true, laidLooks := .later }
def FnExactEncodeBlockCardSaid : Prop := Claim7.holds Tryd.pinned (.plain (OpenSpec.ofChange fnExactEncodeBlockSpec)) fnExactEncodeBlockCard

/-- THE TIED CARD OF 'laws.FnExactDecodeBlock'. -/
def fnExactDecodeBlockCard : Claim7 := { stood := { row := fnExactDecodeBlockRow, standIns := [], harness := (true, "8e00d19a7881cad449db46554999a085415c1c9234b28278551f443e5004dc04"), looks := false }, kinds := [], alts := [], laidByText := true, laidKinds := [.data], laidTests := true, laidLooks := .later }
def FnExactDecodeBlockCardSaid : Prop := Claim7.holds Tryd.pinned (.plain (OpenSpec.ofChange fnExactDecodeBlockSpec)) fnExactDecodeBlockCard

/-- THE TIED CARD OF 'laws.FnBitsBack'. -/
def fnBitsBackCard : Claim7 := { stood := { row := fnBitsBackRow, standIns := [], harness := (true, "8e00d19a7881cad449db46554999a085415c1c9234b28278551f443e5004dc04"), looks := false }, kinds := [], alts := [], laidByText := true, laidKinds := [.data], laidTests := true, laidLooks := .later }
def FnBitsBackCardSaid : Prop := Claim7.holds Tryd.pinned (.plain (OpenSpec.ofChange fnBitsBackSpec)) fnBitsBackCard

/-- THE SECOND FORM's CARD OF 'laws.FnExactEncodeNibble'. -/
def fnExactEncodeNibbleUptoCard : Claim7 := { stood := { row := fnExactEncodeNibbleUptoRow, standIns := [], harness := (true, "8e00d19a7881cad449db46554999a085415c1c9234b28278551f443e5004dc04"), looks := false }, kinds := [], alts := [], laidByText := true, laidKinds := [.data], laidTests := true, laidLooks := .later }
def FnExactEncodeNibbleUptoCardSaid : Prop := Claim7.holds Tryd.pinned (.plain (OpenSpec.upto fnExactEncodeNibbleSpec)) fnExactEncodeNibbleUptoCard

/-- THE SECOND FORM's CARD OF 'laws.FnExactDecodeNibble'. -/
def fnExactDecodeNibbleUptoCard : Claim7 := { stood := { row := fnExactDecodeNibbleUptoRow, standIns := [], harness := (true, "8e00d19a7881cad449db46554999a085415c1c9234b28278551f443e5004dc04"), looks := false }, kinds := [], alts := [], laidByText := true, laidKinds := [.data], laidTests := true, laidLooks := .later }
def FnExactDecodeNibbleUptoCardSaid : Prop := Claim7.holds Tryd.pinned (.plain (OpenSpec.upto fnExactDecodeNibbleSpec)) fnExactDecodeNibbleUptoCard

/-- THE SECOND FORM's CARD OF 'laws.FnCodeWords'. -/
def fnCodeWordsUptoCard : Claim7 := { stood := { row := fnCodeWordsUptoRow, standIns := [], harness := (true, "8e00d19a7881cad449db46554999a085415c1c9234b28278551f443e5004dc04"), looks := false }, kinds := [], alts := [], laidByText := true, laidKinds := [.data], laidTests := true, laidLooks := .later }
def FnCodeWordsUptoCardSaid : Prop := Claim7.holds Tryd.pinned (.plain (OpenSpec.upto fnCodeWordsSpec)) fnCodeWordsUptoCard

/-- THE SECOND FORM's CARD OF 'laws.FnExactEncodeBlock'. -/
def fnExactEncodeBlockUptoCard : Claim7 := { stood := { row := fnExactEncodeBlockUptoRow, standIns := [], harness := (true, "8e00d19a7881cad449db46554999a085415c1c9234b28278551f443e5004dc04"), looks := false }, kinds := [], alts := [], laidByText := true, laidKinds := [.data], laidTests := true, laidLooks := .later }
def FnExactEncodeBlockUptoCardSaid : Prop := Claim7.holds Tryd.pinned (.plain (OpenSpec.upto fnExactEncodeBlockSpec)) fnExactEncodeBlockUptoCard

/-- THE SECOND FORM's CARD OF 'laws.FnExactDecodeBlock'. -/
def fnExactDecodeBlockUptoCard : Claim7 := { stood := { row := fnExactDecodeBlockUptoRow, standIns := [], harness := (true, "8e00d19a7881cad449db46554999a085415c1c9234b28278551f443e5004dc04"), looks := false }, kinds := [], alts := [], laidByText := true, laidKinds := [.data], laidTests := true, laidLooks := .later }
def FnExactDecodeBlockUptoCardSaid : Prop := Claim7.holds Tryd.pinned (.plain (OpenSpec.upto fnExactDecodeBlockSpec)) fnExactDecodeBlockUptoCard

/-- THE SECOND FORM's CARD OF 'laws.FnBitsBack'. -/
def fnBitsBackUptoCard : Claim7 := { stood := { row := fnBitsBackUptoRow, standIns := [], harness := (true, "8e00d19a7881cad449db46554999a085415c1c9234b28278551f443e5004dc04"), looks := false }, kinds := [], alts := [], laidByText := true, laidKinds := [.data], laidTests := true, laidLooks := .later }
def FnBitsBackUptoCardSaid : Prop := Claim7.holds Tryd.pinned (.plain (OpenSpec.upto fnBitsBackSpec)) fnBitsBackUptoCard
end Rows
end Go.Proofs.YtdponcannphboaaDoor
