/-
  DERIVED. GIVEN WITH THE SEED: THE CARDS: each row of YtiemhoipcgfdhaaDoorRows.lean that lists a variable, with what it lists TIED to the program's text (the seventh form; the later family's looks); each row that meets fmt, with fmt's text TOLD by the authors' own Lean function (tested against real Go, not proved from fmt's source: count such statements apart). THE CARD IS WHAT COUNTS. Prove the row's statement (the work); the ties are given (YtiemhoipcgfdhaaDoorTie.lean); close each card by the builder's one call (the guide's Derived/Test/ToyasCard.lean, 'card_holds'). Laid BY PROGRAM, IN A SANDBOX (cutbox-door.mjs). By AI agents, Wed Nov 11 2026. No macro, syntax, notation, axiom, sorry.
-/
import Derived.Test.YtiemhoipcgfdhaaDoorRows
import GoSem.ClaimSeven
namespace Go.Proofs.YtiemhoipcgfdhaaDoor
namespace Rows

/-- THE TIED CARD OF 'laws.FnBlobs'. -/
def fnBlobsCard : Claim7 := { stood := { row := fnBlobsRow, standIns := [], harness := (true, "31dcf21c1d5dbdadc628f0f691bde324c615a0e965cd22bd1150bf6caa95a15e"), looks := true }, kinds := [], alts := [], laidByText := true, laidKinds := [.data, .data], laidTests := true, laidLooks := .later }
def FnBlobsCardSaid : Prop := Claim7.holds Tryd.pinned (.plain (OpenSpec.ofChange fnBlobsSpec)) fnBlobsCard

/-- THE TIED CARD OF 'laws.FnInsts'. -/
def fnInstsCard : Claim7 := { stood := { row := fnInstsRow, standIns := [], harness := (true, "31dcf21c1d5dbdadc628f0f691bde324c615a0e965cd22bd1150bf6caa95a15e"), looks := true }, kinds := [], alts := [], laidByText := true, laidKinds := [.sentinel], laidTests := true, laidLooks := .later }
def FnInstsCardSaid : Prop := Claim7.holds Tryd.pinned (.plain (OpenSpec.ofChange fnInstsSpec)) fnInstsCard

/-- THE TIED CARD OF 'laws.FnExactInstsOk'. -/
def fnExactInstsOkCard : Claim7 := { stood := { row := fnExactInstsOkRow, standIns := [], harness := (true, "31dcf21c1d5dbdadc628f0f691bde324c615a0e965cd22bd1150bf6caa95a15e"), looks := true }, kinds := [], alts := [], laidByText := true, laidKinds := [.sentinel], laidTests := true, laidLooks := .later }
def FnExactInstsOkCardSaid : Prop := Claim7.holds Tryd.pinned (.plain (OpenSpec.ofChange fnExactInstsOkSpec)) fnExactInstsOkCard

/-- THE TIED CARD OF 'laws.FnExactAttrsOf'. -/
def fnExactAttrsOfCard : Claim7 := { stood := { row := fnExactAttrsOfRow, standIns := [], harness := (true, "31dcf21c1d5dbdadc628f0f691bde324c615a0e965cd22bd1150bf6caa95a15e"), looks := true }, kinds := [], alts := [], laidByText := true, laidKinds := [.sentinel], laidTests := true, laidLooks := .later }
def FnExactAttrsOfCardSaid : Prop := Claim7.holds Tryd.pinned (.plain (OpenSpec.ofChange fnExactAttrsOfSpec)) fnExactAttrsOfCard

/-- THE TIED CARD OF 'laws.FnExactInstPut'. -/
def fnExactInstPutCard : Claim7 := { stood := { row := fnExactInstPutRow, standIns := [], harness := (true, "31dcf21c1d5dbdadc628f0f691bde324c615a0e965cd22bd1150bf6caa95a15e"), looks := true }, kinds := [], alts := [], laidByText := true, laidKinds := [.sentinel], laidTests := true, laidLooks := .later }
def FnExactInstPutCardSaid : Prop := Claim7.holds Tryd.pinned (.plain (OpenSpec.ofChange fnExactInstPutSpec)) fnExactInstPutCard

/-- THE SECOND FORM's CARD OF 'laws.FnBlobs'. -/
def fnBlobsUptoCard : Claim7 := { stood := { row := fnBlobsUptoRow, standIns := [], harness := (true, "31dcf21c1d5dbdadc628f0f691bde324c615a0e965cd22bd1150bf6caa95a15e"), looks := true }, kinds := [], alts := [], laidByText := true, laidKinds := [.data, .data], laidTests := true, laidLooks := .later }
def FnBlobsUptoCardSaid : Prop := Claim7.holds Tryd.pinned (.plain (OpenSpec.upto fnBlobsSpec)) fnBlobsUptoCard

/-- THE SECOND FORM's CARD OF 'laws.FnInsts'. -/
def fnInstsUptoCard : Claim7 := { stood := { row := fnInstsUptoRow, standIns := [], harness := (true, "31dcf21c1d5dbdadc628f0f691bde324c615a0e965cd22bd1150bf6caa95a15e"), looks := true }, kinds := [], alts := [], laidByText := true, laidKinds := [.sentinel], laidTests := true, laidLooks := .later }
def FnInstsUptoCardSaid : Prop := Claim7.holds Tryd.pinned (.plain (OpenSpec.upto fnInstsSpec)) fnInstsUptoCard

/-- THE SECOND FORM's CARD OF 'laws.FnExactInstsOk'. -/
def fnExactInstsOkUptoCard : Claim7 := { stood := { row := fnExactInstsOkUptoRow, standIns := [], harness := (true, "31dcf21c1d5dbdadc628f0f691bde324c615a0e965cd22bd1150bf6caa95a15e"), looks := true }, kinds := [], alts := [], laidByText := true, laidKinds := [.sentinel], laidTests := true, laidLooks := .later }
def FnExactInstsOkUptoCardSaid : Prop := Claim7.holds Tryd.pinned (.plain (OpenSpec.upto fnExactInstsOkSpec)) fnExactInstsOkUptoCard

/-- THE SECOND FORM's CARD OF 'laws.FnExactAttrsOf'. -/
def fnExactAttrsOfUptoCard : Claim7 := { stood := { row := fnExactAttrsOfUptoRow, standIns := [], harness := (true, "31dcf21c1d5dbdadc628f0f691bde324c615a0e965cd22bd1150bf6caa95a15e"), looks := true }, kinds := [], alts := [], laidByText := true, laidKinds := [.sentinel], laidTests := true, laidLooks := .later }
def FnExactAttrsOfUptoCardSaid : Prop := Claim7.holds Tryd.pinned (.plain (OpenSpec.upto fnExactAttrsOfSpec)) fnExactAttrsOfUptoCard

/-- THE SECOND FORM's CARD OF 'laws.FnExactInstPut'. -/
def fnExactInstPutUptoCard : Claim7 := { stood := { row := fnExactInstPutUptoRow, standIns := [], harness := (true, "31dcf21c1d5dbdadc628f0f691bde324c615a0e965cd22bd1150bf6caa95a15e"), looks := true }, kinds := [], alts := [], laidByText := true, laidKinds := [.sentinel], laidTests := true, laidLooks := .later }
def FnExactInstPutUptoCardSaid : Prop := Claim7.holds Tryd.pinned (.plain (OpenSpec.upto fnExactInstPutSpec)) fnExactInstPutUptoCard
end Rows
end Go.Proofs.YtiemhoipcgfdhaaDoor
