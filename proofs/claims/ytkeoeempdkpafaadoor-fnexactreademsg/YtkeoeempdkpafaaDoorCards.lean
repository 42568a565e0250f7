/-
  DERIVED. GIVEN WITH THE SEED: THE CARDS: each row of YtkeoeempdkpafaaDoorRows.lean that lists a variable, with what it lists TIED to the program's text (the seventh form; the later family's looks); each row that meets fmt, with fmt's text TOLD by the authors' own Lean function (tested against real Go, not proved from fmt's source: count such statements apart). THE CARD IS WHAT COUNTS. Prove the row's statement (the work); the ties are given (YtkeoeempdkpafaaDoorTie.lean); close each card by the builder's one call (the guide's Derived/Test/ToyasCard.lean, 'card_holds'). Laid BY PROGRAM, IN A SANDBOX (cutbox-door.mjs). By AI agents, Wed Nov 11 2026. No macro, syntax, notation, axiom, sorry.
-/
import Derived.Test.YtkeoeempdkpafaaDoorRows
import GoSem.ClaimSeven
namespace Go.Proofs.YtkeoeempdkpafaaDoor
namespace Rows

/-- THE TIED CARD OF 'laws.FnExactShowEMsg'. -/
def fnExactShowEMsgCard : Claim7 := { stood := { row := fnExactShowEMsgRow, standIns := [], harness := (true, "f08fa17fb6c2c58356a9617037cf16957b95a0ed53438e13a96344c0a26d9178"), looks := true }, kinds := [], alts := [], laidByText := true, laidKinds := [.sentinel], laidTests := true, laidLooks := .later }
def FnExactShowEMsgCardSaid : Prop := Claim7.holds Tryd.pinned (.plain (OpenSpec.ofChange fnExactShowEMsgSpec)) fnExactShowEMsgCard

/-- THE TIED CARD OF 'laws.FnExactReadEMsg'. -/
def fnExactReadEMsgCard : Claim7 := { stood := { row := fnExactReadEMsgRow, standIns := [], harness := (true, "f08fa17fb6c2c58356a9617037cf16957b95a0ed53438e13a96344c0a26d9178"), looks := true }, kinds := [], alts := [], laidByText := true, laidKinds := [.sentinel], laidTests := true, laidLooks := .later }
def FnExactReadEMsgCardSaid : Prop := Claim7.holds Tryd.pinned (.plain (OpenSpec.ofChange fnExactReadEMsgSpec)) fnExactReadEMsgCard

/-- THE TIED CARD OF 'laws.FnExactEMsgOk'. -/
def fnExactEMsgOkCard : Claim7 := { stood := { row := fnExactEMsgOkRow, standIns := [], harness := (true, "f08fa17fb6c2c58356a9617037cf16957b95a0ed53438e13a96344c0a26d9178"), looks := true }, kinds := [], alts := [], laidByText := true, laidKinds := [.sentinel], laidTests := true, laidLooks := .later }
def FnExactEMsgOkCardSaid : Prop := Claim7.holds Tryd.pinned (.plain (OpenSpec.ofChange fnExactEMsgOkSpec)) fnExactEMsgOkCard

/-- THE TIED CARD OF 'laws.FnExactInstPut'. -/
def fnExactInstPutCard : Claim7 := { stood := { row := fnExactInstPutRow, standIns := [], harness := (true, "f08fa17fb6c2c58356a9617037cf16957b95a0ed53438e13a96344c0a26d9178"), looks := true }, kinds := [], alts := [], laidByText := true, laidKinds := [.sentinel], laidTests := true, laidLooks := .later }
def FnExactInstPutCardSaid : Prop := Claim7.holds Tryd.pinned (.plain (OpenSpec.ofChange fnExactInstPutSpec)) fnExactInstPutCard

/-- THE SECOND FORM's CARD OF 'laws.FnExactShowEMsg'. -/
def fnExactShowEMsgUptoCard : Claim7 := { stood := { row := fnExactShowEMsgUptoRow, standIns := [], harness := (true, "f08fa17fb6c2c58356a9617037cf16957b95a0ed53438e13a96344c0a26d9178"), looks := true }, kinds := [], alts := [], laidByText := true, laidKinds := [.sentinel], laidTests := true, laidLooks := .later }
def FnExactShowEMsgUptoCardSaid : Prop := Claim7.holds Tryd.pinned (.plain (OpenSpec.upto fnExactShowEMsgSpec)) fnExactShowEMsgUptoCard

/-- THE SECOND FORM's CARD OF 'laws.FnExactReadEMsg'. -/
def fnExactReadEMsgUptoCard : Claim7 := { stood := { row := fnExactReadEMsgUptoRow, standIns := [], harness := (true, "f08fa17fb6c2c58356a9617037cf16957b95a0ed53438e13a96344c0a26d9178"), looks := true }, kinds := [], alts := [], laidByText := true, laidKinds := [.sentinel], laidTests := true, laidLooks := .later }
def FnExactReadEMsgUptoCardSaid : Prop := Claim7.holds Tryd.pinned (.plain (OpenSpec.upto fnExactReadEMsgSpec)) fnExactReadEMsgUptoCard

/-- THE SECOND FORM's CARD OF 'laws.FnExactEMsgOk'. -/
def fnExactEMsgOkUptoCard : Claim7 := { stood := { row := fnExactEMsgOkUptoRow, standIns := [], harness := (true, "f08fa17fb6c2c58356a9617037cf16957b95a0ed53438e13a96344c0a26d9178"), looks := true }, kinds := [], alts := [], laidByText := true, laidKinds := [.sentinel], laidTests := true, laidLooks := .later }
def FnExactEMsgOkUptoCardSaid : Prop := Claim7.holds Tryd.pinned (.plain (OpenSpec.upto fnExactEMsgOkSpec)) fnExactEMsgOkUptoCard

/-- THE SECOND FORM's CARD OF 'laws.FnExactInstPut'. -/
def fnExactInstPutUptoCard : Claim7 := { stood := { row := fnExactInstPutUptoRow, standIns := [], harness := (true, "f08fa17fb6c2c58356a9617037cf16957b95a0ed53438e13a96344c0a26d9178"), looks := true }, kinds := [], alts := [], laidByText := true, laidKinds := [.sentinel], laidTests := true, laidLooks := .later }
def FnExactInstPutUptoCardSaid : Prop := Claim7.holds Tryd.pinned (.plain (OpenSpec.upto fnExactInstPutSpec)) fnExactInstPutUptoCard
end Rows
end Go.Proofs.YtkeoeempdkpafaaDoor
