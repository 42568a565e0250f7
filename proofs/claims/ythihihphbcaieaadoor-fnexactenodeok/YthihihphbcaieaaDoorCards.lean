/-
  DERIVED. GIVEN WITH THE SEED: THE CARDS: each row of YthihihphbcaieaaDoorRows.lean that lists a variable, with what it lists TIED to the program's text (the seventh form; the later family's looks); each row that meets fmt, with fmt's text TOLD by the authors' own Lean function (tested against real Go, not proved from fmt's source: count such statements apart). THE CARD IS WHAT COUNTS. Prove the row's statement (the work); the ties are given (YthihihphbcaieaaDoorTie.lean); close each card by the builder's one call (the guide's Derived/Test/ToyasCard.lean, 'card_holds'). Laid BY PROGRAM, IN A SANDBOX (cutbox-door.mjs). By AI agents, Wed Nov 11 2026. No macro, syntax, notation, axiom, sorry.
-/
import Derived.Test.YthihihphbcaieaaDoorRows
import GoSem.ClaimSeven
namespace Go.Proofs.YthihihphbcaieaaDoor
namespace Rows

/-- THE TIED CARD OF 'laws.FnBlobs'. -/
def fnBlobsCard : Claim7 := { stood := { row := fnBlobsRow, standIns := [], harness := (true, "484d2cc7302d2476d19f8b44c86304a71b89182a922f5401f1cca0d21a036bd4"), looks := true }, kinds := [], alts := [], laidByText := true, laidKinds := [.data, .data], laidTests := true, laidLooks := .later }
def FnBlobsCardSaid : Prop := Claim7.holds Tryd.pinned (.plain (OpenSpec.ofChange fnBlobsSpec)) fnBlobsCard

/-- THE TIED CARD OF 'laws.FnInsts'. -/
def fnInstsCard : Claim7 := { stood := { row := fnInstsRow, standIns := [], harness := (true, "484d2cc7302d2476d19f8b44c86304a71b89182a922f5401f1cca0d21a036bd4"), looks := true }, kinds := [], alts := [], laidByText := true, laidKinds := [.sentinel], laidTests := true, laidLooks := .later }
def FnInstsCardSaid : Prop := Claim7.holds Tryd.pinned (.plain (OpenSpec.ofChange fnInstsSpec)) fnInstsCard

/-- THE TIED CARD OF 'laws.FnExactInstsOk'. -/
def fnExactInstsOkCard : Claim7 := { stood := { row := fnExactInstsOkRow, standIns := [], harness := (true, "484d2cc7302d2476d19f8b44c86304a71b89182a922f5401f1cca0d21a036bd4"), looks := true }, kinds := [], alts := [], laidByText := true, laidKinds := [.sentinel], laidTests := true, laidLooks := .later }
def FnExactInstsOkCardSaid : Prop := Claim7.holds Tryd.pinned (.plain (OpenSpec.ofChange fnExactInstsOkSpec)) fnExactInstsOkCard

/-- THE TIED CARD OF 'laws.FnExactAttrsOf'. -/
def fnExactAttrsOfCard : Claim7 := { stood := { row := fnExactAttrsOfRow, standIns := [], harness := (true, "484d2cc7302d2476d19f8b44c86304a71b89182a922f5401f1cca0d21a036bd4"), looks := true }, kinds := [], alts := [], laidByText := true, laidKinds := [.sentinel], laidTests := true, laidLooks := .later }
def FnExactAttrsOfCardSaid : Prop := Claim7.holds Tryd.pinned (.plain (OpenSpec.ofChange fnExactAttrsOfSpec)) fnExactAttrsOfCard

/-- THE TIED CARD OF 'laws.FnExactInstPut'. -/
def fnExactInstPutCard : Claim7 := { stood := { row := fnExactInstPutRow, standIns := [], harness := (true, "484d2cc7302d2476d19f8b44c86304a71b89182a922f5401f1cca0d21a036bd4"), looks := true }, kinds := [], alts := [], laidByText := true, laidKinds := [.sentinel], laidTests := true, laidLooks := .later }
def FnExactInstPutCardSaid : Prop := Claim7.holds Tryd.pinned (.plain (OpenSpec.ofChange fnExactInstPutSpec)) fnExactInstPutCard

/-- THE TIED CARD OF 'laws.FnExactEMsgOk'. -/
def fnExactEMsgOkCard : Claim7 := { stood := { row := fnExactEMsgOkRow, standIns := [], harness := (true, "484d2cc7302d2476d19f8b44c86304a71b89182a922f5401f1cca0d21a036bd4"), looks := true }, kinds := [], alts := [], laidByText := true, laidKinds := [.sentinel], laidTests := true, laidLooks := .later }
def FnExactEMsgOkCardSaid : Prop := Claim7.holds Tryd.pinned (.plain (OpenSpec.ofChange fnExactEMsgOkSpec)) fnExactEMsgOkCard

/-- THE TIED CARD OF 'laws.FnExactENodeOk'. -/
def fnExactENodeOkCard : Claim7 := { stood := { row := fnExactENodeOkRow, standIns := [], harness := (true, "484d2cc7302d2476d19f8b44c86304a71b89182a922f5401f1cca0d21a036bd4"), looks := true }, kinds := [], alts := [], laidByText := true, laidKinds := [.sentinel], laidTests := true, laidLooks := .later }
def FnExactENodeOkCardSaid : Prop := Claim7.holds Tryd.pinned (.plain (OpenSpec.ofChange fnExactENodeOkSpec)) fnExactENodeOkCard

/-- THE SECOND FORM's CARD OF 'laws.FnBlobs'. -/
def fnBlobsUptoCard : Claim7 := { stood := { row := fnBlobsUptoRow, standIns := [], harness := (true, "484d2cc7302d2476d19f8b44c86304a71b89182a922f5401f1cca0d21a036bd4"), looks := true }, kinds := [], alts := [], laidByText := true, laidKinds := [.data, .data], laidTests := true, laidLooks := .later }
def FnBlobsUptoCardSaid : Prop := Claim7.holds Tryd.pinned (.plain (OpenSpec.upto fnBlobsSpec)) fnBlobsUptoCard

/-- THE SECOND FORM's CARD OF 'laws.FnInsts'. -/
def fnInstsUptoCard : Claim7 := { stood := { row := fnInstsUptoRow, standIns := [], harness := (true, "484d2cc7302d2476d19f8b44c86304a71b89182a922f5401f1cca0d21a036bd4"), looks := true }, kinds := [], alts := [], laidByText := true, laidKinds := [.sentinel], laidTests := true, laidLooks := .later }
def FnInstsUptoCardSaid : Prop := Claim7.holds Tryd.pinned (.plain (OpenSpec.upto fnInstsSpec)) fnInstsUptoCard

/-- THE SECOND FORM's CARD OF 'laws.FnExactInstsOk'. -/
def fnExactInstsOkUptoCard : Claim7 := { stood := { row := fnExactInstsOkUptoRow, standIns := [], harness := (true, "484d2cc7302d2476d19f8b44c86304a71b89182a922f5401f1cca0d21a036bd4"), looks := true }, kinds := [], alts := [], laidByText := true, laidKinds := [.sentinel], laidTests := true, laidLooks := .later }
def FnExactInstsOkUptoCardSaid : Prop := Claim7.holds Tryd.pinned (.plain (OpenSpec.upto fnExactInstsOkSpec)) fnExactInstsOkUptoCard

/-- THE SECOND FORM's CARD OF 'laws.FnExactAttrsOf'. -/
def fnExactAttrsOfUptoCard : Claim7 := { stood := { row := fnExactAttrsOfUptoRow, standIns := [], harness := (true, "484d2cc7302d2476d19f8b44c86304a71b89182a922f5401f1cca0d21a036bd4"), looks := true }, kinds := [], alts := [], laidByText := true, laidKinds := [.sentinel], laidTests := true, laidLooks := .later }
def FnExactAttrsOfUptoCardSaid : Prop := Claim7.holds Tryd.pinned (.plain (OpenSpec.upto fnExactAttrsOfSpec)) fnExactAttrsOfUptoCard

/-- THE SECOND FORM's CARD OF 'laws.FnExactInstPut'. -/
def fnExactInstPutUptoCard : Claim7 := { stood := { row := fnExactInstPutUptoRow, standIns := [], harness := (true, "484d2cc7302d2476d19f8b44c86304a71b89182a922f5401f1cca0d21a036bd4"), looks := true }, kinds := [], alts := [], laidByText := true, laidKinds := [.sentinel], laidTests := true, laidLooks := .later }
def FnExactInstPutUptoCardSaid : Prop := Claim7.holds Tryd.pinned (.plain (OpenSpec.upto fnExactInstPutSpec)) fnExactInstPutUptoCard

/-- THE SECOND FORM's CARD OF 'laws.FnExactEMsgOk'. -/
def fnExactEMsgOkUptoCard : Claim7 := { stood := { row := fnExactEMsgOkUptoRow, standIns := [], harness := (true, "484d2cc7302d2476d19f8b44c86304a71b89182a922f5401f1cca0d21a036bd4"), looks := true }, kinds := [], alts := [], laidByText := true, laidKinds := [.sentinel], laidTests := true, laidLooks := .later }
def FnExactEMsgOkUptoCardSaid : Prop := Claim7.holds Tryd.pinned (.plain (OpenSpec.upto fnExactEMsgOkSpec)) fnExactEMsgOkUptoCard

/-- THE SECOND FORM's CARD OF 'laws.FnExactENodeOk'. -/
def fnExactENodeOkUptoCard : Claim7 := { stood := { row := fnExactENodeOkUptoRow, standIns := [], harness := (true, "484d2cc7302d2476d19f8b44c86304a71b89182a922f5401f1cca0d21a036bd4"), looks := true }, kinds := [], alts := [], laidByText := true, laidKinds := [.sentinel], laidTests := true, laidLooks := .later }
def FnExactENodeOkUptoCardSaid : Prop := Claim7.holds Tryd.pinned (.plain (OpenSpec.upto fnExactENodeOkSpec)) fnExactENodeOkUptoCard
end Rows
end Go.Proofs.YthihihphbcaieaaDoor
