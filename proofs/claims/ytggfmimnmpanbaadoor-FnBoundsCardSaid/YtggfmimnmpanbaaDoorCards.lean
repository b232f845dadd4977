/-
  DERIVED. GIVEN WITH THE SEED: THE CARDS: each row of YtggfmimnmpanbaaDoorRows.lean that lists a variable, with what it lists TIED to the program's text (the seventh form; the later family's looks); each row that meets fmt, with fmt's text TOLD by the authors' own Lean function (tested against real Go, not proved from fmt's source: count such statements apart). THE CARD IS WHAT COUNTS. Prove the row's statement (the work); the ties are given (YtggfmimnmpanbaaDoorTie.lean); close each card by the builder's one call (the guide's Derived/Test/ToyasCard.lean, 'card_holds'). Laid BY PROGRAM, IN A SANDBOX (cutbox-door.mjs). By AI agents, Wed Nov 11 2026. No macro, syntax, notation, axiom, sorry.
-/
import Derived.Test.YtggfmimnmpanbaaDoorRows
import GoSem.ClaimSeven
namespace Go.Proofs.YtggfmimnmpanbaaDoor
namespace Rows

/-- THE TIED CARD OF 'laws.FnBounds'. -/
def fnBoundsCard : Claim7 := { stood := { row := fnBoundsRow, standIns := [], harness := (true, "42bb7047878b2844a0df5a1559a9f1f4f8769bc37d177b2701a6774f816ead8f"), looks := false }, kinds := [], alts := [], laidByText := true, laidKinds := [.data, .data], laidTests := true, laidLooks := .later }
def FnBoundsCardSaid : Prop := Claim7.holds Tryd.pinned (.plain (OpenSpec.ofChange fnBoundsSpec)) fnBoundsCard

/-- THE TIED CARD OF 'laws.FnExactPairsOk'. -/
def fnExactPairsOkCard : Claim7 := { stood := { row := fnExactPairsOkRow, standIns := [], harness := (true, "42bb7047878b2844a0df5a1559a9f1f4f8769bc37d177b2701a6774f816ead8f"), looks := false }, kinds := [], alts := [], laidByText := true, laidKinds := [.data], laidTests := true, laidLooks := .later }
def FnExactPairsOkCardSaid : Prop := Claim7.holds Tryd.pinned (.plain (OpenSpec.ofChange fnExactPairsOkSpec)) fnExactPairsOkCard

/-- THE TIED CARD OF 'laws.FnExactAddPair'. -/
def fnExactAddPairCard : Claim7 := { stood := { row := fnExactAddPairRow, standIns := [], harness := (true, "42bb7047878b2844a0df5a1559a9f1f4f8769bc37d177b2701a6774f816ead8f"), looks := false }, kinds := [], alts := [], laidByText := true, laidKinds := [.data], laidTests := true, laidLooks := .later }
def FnExactAddPairCardSaid : Prop := Claim7.holds Tryd.pinned (.plain (OpenSpec.ofChange fnExactAddPairSpec)) fnExactAddPairCard

/-- THE TIED CARD OF 'laws.FnExactBoundsOf'. -/
def fnExactBoundsOfCard : Claim7 := { stood := { row := fnExactBoundsOfRow, standIns := [], harness := (true, "42bb7047878b2844a0df5a1559a9f1f4f8769bc37d177b2701a6774f816ead8f"), looks := false }, kinds := [], alts := [], laidByText := true, laidKinds := [.data, .data], laidTests := true, laidLooks := .later }
def FnExactBoundsOfCardSaid : Prop := Claim7.holds Tryd.pinned (.plain (OpenSpec.ofChange fnExactBoundsOfSpec)) fnExactBoundsOfCard

/-- THE TIED CARD OF 'laws.FnExactGuessTrue'. -/
def fnExactGuessTrueCard : Claim7 := { stood := { row := fnExactGuessTrueRow, standIns := [], harness := (true, "42bb7047878b2844a0df5a1559a9f1f4f8769bc37d177b2701a6774f816ead8f"), looks := false }, kinds := [], alts := [], laidByText := true, laidKinds := [.data], laidTests := true, laidLooks := .later }
def FnExactGuessTrueCardSaid : Prop := Claim7.holds Tryd.pinned (.plain (OpenSpec.ofChange fnExactGuessTrueSpec)) fnExactGuessTrueCard

/-- THE TIED CARD OF 'laws.FnExactRateOf'. -/
def fnExactRateOfCard : Claim7 := { stood := { row := fnExactRateOfRow, standIns := [], harness := (true, "42bb7047878b2844a0df5a1559a9f1f4f8769bc37d177b2701a6774f816ead8f"), looks := false }, kinds := [], alts := [], laidByText := true, laidKinds := [.data], laidTests := true, laidLooks := .later }
def FnExactRateOfCardSaid : Prop := Claim7.holds Tryd.pinned (.plain (OpenSpec.ofChange fnExactRateOfSpec)) fnExactRateOfCard

/-- THE SECOND FORM's CARD OF 'laws.FnBounds'. -/
def fnBoundsUptoCard : Claim7 := { stood := { row := fnBoundsUptoRow, standIns := [], harness := (true, "42bb7047878b2844a0df5a1559a9f1f4f8769bc37d177b2701a6774f816ead8f"), looks := false }, kinds := [], alts := [], laidByText := true, laidKinds := [.data, .data], laidTests := true, laidLooks := .later }
def FnBoundsUptoCardSaid : Prop := Claim7.holds Tryd.pinned (.plain (OpenSpec.upto fnBoundsSpec)) fnBoundsUptoCard

/-- THE SECOND FORM's CARD OF 'laws.FnExactPairsOk'. -/
def fnExactPairsOkUptoCard : Claim7 := { stood := { row := fnExactPairsOkUptoRow, standIns := [], harness := (true, "42bb7047878b2844a0df5a1559a9f1f4f8769bc37d177b2701a6774f816ead8f"), looks := false }, kinds := [], alts := [], laidByText := true, laidKinds := [.data], laidTests := true, laidLooks := .later }
def FnExactPairsOkUptoCardSaid : Prop := Claim7.holds Tryd.pinned (.plain (OpenSpec.upto fnExactPairsOkSpec)) fnExactPairsOkUptoCard

/-- THE SECOND FORM's CARD OF 'laws.FnExactAddPair'. -/
def fnExactAddPairUptoCard : Claim7 := { stood := { row := fnExactAddPairUptoRow, standIns := [], harness := (true, "42bb7047878b2844a0df5a1559a9f1f4f8769bc37d177b2701a6774f816ead8f"), looks := false }, kinds := [], alts := [], laidByText := true, laidKinds := [.data], laidTests := true, laidLooks := .later }
def FnExactAddPairUptoCardSaid : Prop := Claim7.holds Tryd.pinned (.plain (OpenSpec.upto fnExactAddPairSpec)) fnExactAddPairUptoCard

/-- THE SECOND FORM's CARD OF 'laws.FnExactBoundsOf'. -/
def fnExactBoundsOfUptoCard : Claim7 := { stood := { row := fnExactBoundsOfUptoRow, standIns := [], harness := (true, "42bb7047878b2844a0df5a1559a9f1f4f8769bc37d177b2701a6774f816ead8f"), looks := false }, kinds := [], alts := [], laidByText := true, laidKinds := [.data, .data], laidTests := true, laidLooks := .later }
def FnExactBoundsOfUptoCardSaid : Prop := Claim7.holds Tryd.pinned (.plain (OpenSpec.upto fnExactBoundsOfSpec)) fnExactBoundsOfUptoCard

/-- THE SECOND FORM's CARD OF 'laws.FnExactGuessTrue'. -/
def fnExactGuessTrueUptoCard : Claim7 := { stood := { row := fnExactGuessTrueUptoRow, standIns := [], harness := (true, "42bb7047878b2844a0df5a1559a9f1f4f8769bc37d177b2701a6774f816ead8f"), looks := false }, kinds := [], alts := [], laidByText := true, laidKinds := [.data], laidTests := true, laidLooks := .later }
def FnExactGuessTrueUptoCardSaid : Prop := Claim7.holds Tryd.pinned (.plain (OpenSpec.upto fnExactGuessTrueSpec)) fnExactGuessTrueUptoCard

/-- THE SECOND FORM's CARD OF 'laws.FnExactRateOf'. -/
def fnExactRateOfUptoCard : Claim7 := { stood := { row := fnExactRateOfUptoRow, standIns := [], harness := (true, "42bb7047878b2844a0df5a1559a9f1f4f8769bc37d177b2701a6774f816ead8f"), looks := false }, kinds := [], alts := [], laidByText := true, laidKinds := [.data], laidTests := true, laidLooks := .later }
def FnExactRateOfUptoCardSaid : Prop := Claim7.holds Tryd.pinned (.plain (OpenSpec.upto fnExactRateOfSpec)) fnExactRateOfUptoCard
end Rows
end Go.Proofs.YtggfmimnmpanbaaDoor
