/-
  DERIVED. GIVEN WITH THE SEED: THE CARDS: each row of YtemhhjkmolndbaaDoorRows.lean that lists a variable, with what it lists TIED to the program's text (the seventh form; the later family's looks); each row that meets fmt, with fmt's text TOLD by the authors' own Lean function (tested against real Go, not proved from fmt's source: count such statements apart). THE CARD IS WHAT COUNTS. Prove the row's statement (the work); the ties are given (YtemhhjkmolndbaaDoorTie.lean); close each card by the builder's one call (the guide's Derived/Test/ToyasCard.lean, 'card_holds'). Laid BY PROGRAM, IN A SANDBOX (cutbox-door.mjs). By AI agents, Wed Nov 11 2026. No macro, syntax, notation, axiom, sorry.
-/
import Derived.Test.YtemhhjkmolndbaaDoorRows
import GoSem.ClaimSeven
namespace Go.Proofs.YtemhhjkmolndbaaDoor
namespace Rows

/-- THE TIED CARD OF 'laws.FnLog'. -/
def fnLogCard : Claim7 := { stood := { row := fnLogRow, standIns := [], harness := (true, "c47ae2f31e1c81d4c574cc532bc9fc25619c1344332924b6f20eb29b2db4aa21"), looks := true }, kinds := [], alts := [], laidByText := true, laidKinds := [.handle, .data], laidTests := true, laidLooks := .later }
def FnLogCardSaid : Prop := Claim7.holds Tryd.pinned (.plain (OpenSpec.ofChange fnLogSpec)) fnLogCard

/-- THE TIED CARD OF 'laws.FnBlobs'. -/
def fnBlobsCard : Claim7 := { stood := { row := fnBlobsRow, standIns := [], harness := (true, "c47ae2f31e1c81d4c574cc532bc9fc25619c1344332924b6f20eb29b2db4aa21"), looks := true }, kinds := [], alts := [], laidByText := true, laidKinds := [.data, .data], laidTests := true, laidLooks := .later }
def FnBlobsCardSaid : Prop := Claim7.holds Tryd.pinned (.plain (OpenSpec.ofChange fnBlobsSpec)) fnBlobsCard

/-- THE TIED CARD OF 'laws.FnExactBlobsOk'. -/
def fnExactBlobsOkCard : Claim7 := { stood := { row := fnExactBlobsOkRow, standIns := [], harness := (true, "c47ae2f31e1c81d4c574cc532bc9fc25619c1344332924b6f20eb29b2db4aa21"), looks := true }, kinds := [], alts := [], laidByText := true, laidKinds := [.data, .data], laidTests := true, laidLooks := .later }
def FnExactBlobsOkCardSaid : Prop := Claim7.holds Tryd.pinned (.plain (OpenSpec.ofChange fnExactBlobsOkSpec)) fnExactBlobsOkCard

/-- THE TIED CARD OF 'laws.FnExactBlobPut'. -/
def fnExactBlobPutCard : Claim7 := { stood := { row := fnExactBlobPutRow, standIns := [], harness := (true, "c47ae2f31e1c81d4c574cc532bc9fc25619c1344332924b6f20eb29b2db4aa21"), looks := true }, kinds := [], alts := [], laidByText := true, laidKinds := [.data, .data], laidTests := true, laidLooks := .later }
def FnExactBlobPutCardSaid : Prop := Claim7.holds Tryd.pinned (.plain (OpenSpec.ofChange fnExactBlobPutSpec)) fnExactBlobPutCard

/-- THE TIED CARD OF 'laws.FnExactBlobGet'. -/
def fnExactBlobGetCard : Claim7 := { stood := { row := fnExactBlobGetRow, standIns := [], harness := (true, "c47ae2f31e1c81d4c574cc532bc9fc25619c1344332924b6f20eb29b2db4aa21"), looks := true }, kinds := [], alts := [], laidByText := true, laidKinds := [.data, .data], laidTests := true, laidLooks := .later }
def FnExactBlobGetCardSaid : Prop := Claim7.holds Tryd.pinned (.plain (OpenSpec.ofChange fnExactBlobGetSpec)) fnExactBlobGetCard

/-- THE TIED CARD OF 'laws.FnExactBlobDrop'. -/
def fnExactBlobDropCard : Claim7 := { stood := { row := fnExactBlobDropRow, standIns := [], harness := (true, "c47ae2f31e1c81d4c574cc532bc9fc25619c1344332924b6f20eb29b2db4aa21"), looks := true }, kinds := [], alts := [], laidByText := true, laidKinds := [.data, .data], laidTests := true, laidLooks := .later }
def FnExactBlobDropCardSaid : Prop := Claim7.holds Tryd.pinned (.plain (OpenSpec.ofChange fnExactBlobDropSpec)) fnExactBlobDropCard

/-- THE TIED CARD OF 'laws.FnExactBlobBend'. -/
def fnExactBlobBendCard : Claim7 := { stood := { row := fnExactBlobBendRow, standIns := [], harness := (true, "c47ae2f31e1c81d4c574cc532bc9fc25619c1344332924b6f20eb29b2db4aa21"), looks := true }, kinds := [], alts := [], laidByText := true, laidKinds := [.data, .data], laidTests := true, laidLooks := .later }
def FnExactBlobBendCardSaid : Prop := Claim7.holds Tryd.pinned (.plain (OpenSpec.ofChange fnExactBlobBendSpec)) fnExactBlobBendCard

/-- THE TIED CARD OF 'laws.FnExactBlobUsed'. -/
def fnExactBlobUsedCard : Claim7 := { stood := { row := fnExactBlobUsedRow, standIns := [], harness := (true, "c47ae2f31e1c81d4c574cc532bc9fc25619c1344332924b6f20eb29b2db4aa21"), looks := true }, kinds := [], alts := [], laidByText := true, laidKinds := [.data, .data], laidTests := true, laidLooks := .later }
def FnExactBlobUsedCardSaid : Prop := Claim7.holds Tryd.pinned (.plain (OpenSpec.ofChange fnExactBlobUsedSpec)) fnExactBlobUsedCard

/-- THE SECOND FORM's CARD OF 'laws.FnLog'. -/
def fnLogUptoCard : Claim7 := { stood := { row := fnLogUptoRow, standIns := [], harness := (true, "c47ae2f31e1c81d4c574cc532bc9fc25619c1344332924b6f20eb29b2db4aa21"), looks := true }, kinds := [], alts := [], laidByText := true, laidKinds := [.handle, .data], laidTests := true, laidLooks := .later }
def FnLogUptoCardSaid : Prop := Claim7.holds Tryd.pinned (.plain (OpenSpec.upto fnLogSpec)) fnLogUptoCard

/-- THE SECOND FORM's CARD OF 'laws.FnBlobs'. -/
def fnBlobsUptoCard : Claim7 := { stood := { row := fnBlobsUptoRow, standIns := [], harness := (true, "c47ae2f31e1c81d4c574cc532bc9fc25619c1344332924b6f20eb29b2db4aa21"), looks := true }, kinds := [], alts := [], laidByText := true, laidKinds := [.data, .data], laidTests := true, laidLooks := .later }
def FnBlobsUptoCardSaid : Prop := Claim7.holds Tryd.pinned (.plain (OpenSpec.upto fnBlobsSpec)) fnBlobsUptoCard

/-- THE SECOND FORM's CARD OF 'laws.FnExactBlobsOk'. -/
def fnExactBlobsOkUptoCard : Claim7 := { stood := { row := fnExactBlobsOkUptoRow, standIns := [], harness := (true, "c47ae2f31e1c81d4c574cc532bc9fc25619c1344332924b6f20eb29b2db4aa21"), looks := true }, kinds := [], alts := [], laidByText := true, laidKinds := [.data, .data], laidTests := true, laidLooks := .later }
def FnExactBlobsOkUptoCardSaid : Prop := Claim7.holds Tryd.pinned (.plain (OpenSpec.upto fnExactBlobsOkSpec)) fnExactBlobsOkUptoCard

/-- THE SECOND FORM's CARD OF 'laws.FnExactBlobPut'. -/
def fnExactBlobPutUptoCard : Claim7 := { stood := { row := fnExactBlobPutUptoRow, standIns := [], harness := (true, "c47ae2f31e1c81d4c574cc532bc9fc25619c1344332924b6f20eb29b2db4aa21"), looks := true }, kinds := [], alts := [], laidByText := true, laidKinds := [.data, .data], laidTests := true, laidLooks := .later }
def FnExactBlobPutUptoCardSaid : Prop := Claim7.holds Tryd.pinned (.plain (OpenSpec.upto fnExactBlobPutSpec)) fnExactBlobPutUptoCard

/-- THE SECOND FORM's CARD OF 'laws.FnExactBlobGet'. -/
def fnExactBlobGetUptoCard : Claim7 := { stood := { row := fnExactBlobGetUptoRow, standIns := [], harness := (true, "c47ae2f31e1c81d4c574cc532bc9fc25619c1344332924b6f20eb29b2db4aa21"), looks := true }, kinds := [], alts := [], laidByText := true, laidKinds := [.data, .data], laidTests := true, laidLooks := .later }
def FnExactBlobGetUptoCardSaid : Prop := Claim7.holds Tryd.pinned (.plain (OpenSpec.upto fnExactBlobGetSpec)) fnExactBlobGetUptoCard

/-- THE SECOND FORM's CARD OF 'laws.FnExactBlobDrop'. -/
def fnExactBlobDropUptoCard : Claim7 := { stood := { row := fnExactBlobDropUptoRow, standIns := [], harness := (true, "c47ae2f31e1c81d4c574cc532bc9fc25619c1344332924b6f20eb29b2db4aa21"), looks := true }, kinds := [], alts := [], laidByText := true, laidKinds := [.data, .data], laidTests := true, laidLooks := .later }
def FnExactBlobDropUptoCardSaid : Prop := Claim7.holds Tryd.pinned (.plain (OpenSpec.upto fnExactBlobDropSpec)) fnExactBlobDropUptoCard

/-- THE SECOND FORM's CARD OF 'laws.FnExactBlobBend'. -/
def fnExactBlobBendUptoCard : Claim7 := { stood := { row := fnExactBlobBendUptoRow, standIns := [], harness := (true, "c47ae2f31e1c81d4c574cc532bc9fc25619c1344332924b6f20eb29b2db4aa21"), looks := true }, kinds := [], alts := [], laidByText := true, laidKinds := [.data, .data], laidTests := true, laidLooks := .later }
def FnExactBlobBendUptoCardSaid : Prop := Claim7.holds Tryd.pinned (.plain (OpenSpec.upto fnExactBlobBendSpec)) fnExactBlobBendUptoCard

/-- THE SECOND FORM's CARD OF 'laws.FnExactBlobUsed'. -/
def fnExactBlobUsedUptoCard : Claim7 := { stood := { row := fnExactBlobUsedUptoRow, standIns := [], harness := (true, "c47ae2f31e1c81d4c574cc532bc9fc25619c1344332924b6f20eb29b2db4aa21"), looks := true }, kinds := [], alts := [], laidByText := true, laidKinds := [.data, .data], laidTests := true, laidLooks := .later }
def FnExactBlobUsedUptoCardSaid : Prop := Claim7.holds Tryd.pinned (.plain (OpenSpec.upto fnExactBlobUsedSpec)) fnExactBlobUsedUptoCard
end Rows
end Go.Proofs.YtemhhjkmolndbaaDoor
